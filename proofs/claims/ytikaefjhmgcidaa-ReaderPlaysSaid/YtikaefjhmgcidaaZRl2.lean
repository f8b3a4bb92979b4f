/- A frame's parts, by the document: padding that is wrong. -/
import Derived.Test.YtikaefjhmgcidaaZMRk
namespace Go.Proofs.Ytikaefjhmgcidaa
open Go.RowKit
set_option linter.unusedVariables false
set_option maxRecDepth 100000
set_option maxHeartbeats 4000000

theorem pt_0p_s (fl st : Int) (a : Option Addr) (len cap : Nat) (b : List UInt8) (w : World) (h0 : 0 ≤ fl) (h1 : fl ≤ 255) (hs : SrcAt w a b) (hl : b.length = len) (hc : len ≤ cap) (hm : len ≤ 16777215) (h8 : has fl 8 = true) (hsh : len < 1) :
    Calls Try.prog 36 #[.agg #[.int .i64 0, .int .i64 fl, .int .i64 st, .slice none 0 0, .int .i64 0, .int .u32 0, .int .i64 0, .int .i64 0, .int .i64 0, .bool false, .int .i64 0, .slice none 0 0], .slice a len cap] w fun e w' => PtAs w 0 fl st 0 6 ([]) e w' := by
  obtain ⟨W, hW⟩ : ∃ W, W = ((w.alloc (.cells #[.int .i64 0, .int .i64 fl, .int .i64 st, .slice none 0 0, .int .i64 0, .int .u32 0, .int .i64 0, .int .i64 0, .int .i64 0, .bool false, .int .i64 0, .slice none 0 0] 36)).alloc (.cells #[.int .i64 0, .int .i64 0, .int .i64 0, .slice none 0 0, .int .i64 0, .int .u32 0, .int .i64 0, .int .i64 0, .int .i64 0, .bool false, .int .i64 0, .slice none 0 0] 36)).alloc (.cells #[.bool false, .int .i64 0, .int .i64 0] 38) := ⟨_, rfl⟩
  have HFW : Hid (Fr (fun _ => False) w W) := by rw [hW]; exact (((Fr.refl _ _).alloc _).alloc _).alloc _
  have A0 : Hid (W.heap[w.heap.size]? = some (.cells #[.int .i64 0, .int .i64 fl, .int .i64 st, .slice none 0 0, .int .i64 0, .int .u32 0, .int .i64 0, .int .i64 0, .int .i64 0, .bool false, .int .i64 0, .slice none 0 0] 36 (0, 0))) := by rw [hW]; exact past_at _ (past_at _ (heap_alloc_new w _))
  have hr1 : W.heap[w.heap.size + 1]? = some (.cells #[.int .i64 0, .int .i64 0, .int .i64 0, .slice none 0 0, .int .i64 0, .int .u32 0, .int .i64 0, .int .i64 0, .int .i64 0, .bool false, .int .i64 0, .slice none 0 0] 36 (0, 0)) := by rw [hW]; exact past_at _ (last_at _ (by simp))
  have hr2 : W.heap[w.heap.size + 2]? = some (.cells #[.bool false, .int .i64 0, .int .i64 0] 38 (0, 0)) := by rw [hW]; exact last_at _ (by simp)
  have HRES : Hid (∀ w', Fr (fun k => k = w.heap.size) W w' → w'.heap[w.heap.size + 1]? = some (.cells #[.int .i64 0, .int .i64 0, .int .i64 0, .slice none 0 0, .int .i64 0, .int .u32 0, .int .i64 0, .int .i64 0, .int .i64 0, .bool false, .int .i64 0, .slice none 0 0] 36 (0, 0)) ∧ w'.heap[w.heap.size + 2]? = some (.cells #[.bool false, .int .i64 0, .int .i64 0] 38 (0, 0))) := fun w' hf => ⟨(hf.block _ (lt_of_heap hr1) (by omega)).trans hr1, (hf.block _ (lt_of_heap hr2) (by omega)).trans hr2⟩
  have K3 : ∀ w, Calls Try.prog 39 #[.int .i64 0] w fun e w' => e = .returned (.bool true) ∧ w = w' := fun w => by have h := rpadded_in 0 w; rwa [show canP 0 = true by decide] at h
  have K4 : ∀ w, Calls Try.prog 40 #[.int .i64 fl, .int .i64 8] w fun e w' => e = .returned (.bool true) ∧ w = w' := fun w => by have h := has_in fl 8 w (by omega) h0 h1; rw [← h8]; exact h
  have HS : Hid (SrcAt w a b) := hs
  have HL : Hid (b.length = len) := hl
  obtain ⟨c0, c1, c2, c3, c4, c5, c6, c7, c8, c9, c10, c11⟩ := cells12 A0.out
  have A1 : Hid (W.heap[w.heap.size]? = some (.cells #[.int .i64 0, .int .i64 fl, .int .i64 st, .slice none 0 0, .int .i64 0, .int .u32 0, .int .i64 0, .int .i64 0, .int .i64 0, .bool false, .int .i64 0, .slice none 0 0] 36 (0, 0))) := A0.out
  have F1 : Hid (Fr (fun k => k = w.heap.size) W W) := Fr.refl _ _
  clear hs hl hr1 hr2
  go_enter Try.func36, Try.ntmps36
  go_wp2_with (fail)
  rw [← hW]
  clear hW
  go_wp2_with first
    | (go_at_call 39; refine (K3 _).mono ?_; rintro e w' ⟨rfl, rfl⟩)
    | (go_at_call 40; refine (K4 _).mono ?_; rintro e w' ⟨rfl, rfl⟩)
  refine wp_region_held_drew (S := fun w2 => w2.heap[w.heap.size]? = some (.cells #[.int .i64 0, .int .i64 fl, .int .i64 st, .slice none 0 0, .int .i64 0, .int .u32 0, .int .i64 0, .int .i64 0, .int .i64 0, .bool false, .int .i64 0, .slice none 0 0] 36 (0, 0))) (by kernel_rfl) A1.out (fun hHeld => ?_)
  refine wpAnyH_take (i := 0) (oi := _) (v := .agg #[.int .i64 0, .int .i64 fl, .int .i64 st, .slice none 0 0, .int .i64 0, .int .u32 0, .int .i64 0, .int .i64 0, .int .i64 0, .bool false, .int .i64 0, .slice none 0 0]) rfl (by kernel_rfl) (by kernel_rfl) (by kernel_rfl) (fun _ _ _ h => h) (Or.inl ⟨by kernel_rfl, fun w2 hw => by obtain ⟨c0, c1, c2, c3, c4, c5, c6, c7, c8, c9, c10, c11⟩ := cells12 hw; go_simp⟩) hHeld ?_
  simp only [Act.put, List.getElem_toArray, List.getElem_cons_zero, List.setIfInBounds_toArray, List.set_cons_zero, List.set_cons_succ]
  refine wpAnyH_ready (rs := [1]) (by kernel_rfl) (by simp) ?_
  refine AllReadyH.cons rfl (fun K hK => ?_) AllReadyH.nil
  go_simp
  refine (fault_in 6 _).mono ?_
  rintro e w3 ⟨rfl, hf3⟩
  have F3 : Hid (Fr (fun k => k = w.heap.size) W w3) := F1.out.trans (((Fr.refl _ _).drew.trans hf3).mono (fun _ _ e => e.elim))
  have A3 : Hid (w3.heap[w.heap.size]? = some (.cells #[.int .i64 0, .int .i64 fl, .int .i64 st, .slice none 0 0, .int .i64 0, .int .u32 0, .int .i64 0, .int .i64 0, .int .i64 0, .bool false, .int .i64 0, .slice none 0 0] 36 (0, 0))) := (((Fr.refl (fun _ => False) _).drew.trans hf3).block _ (lt_of_heap A1.out) id).trans A1.out
  refine hK.out _ _ A3.out (fun hHeld2 => ?_)
  clear hK K
  refine wpAnyH_ready (rs := [2]) (by kernel_rfl) (by simp) ?_
  refine AllReadyH.cons rfl (fun K hK => ?_) AllReadyH.nil
  refine stepR_storeB rfl rfl 36 (.tmp 4) (.tmp 39) rfl (w.heap.size + 1) #[.int .i64 0, .int .i64 0, .int .i64 0, .slice none 0 0, .int .i64 0, .int .u32 0, .int .i64 0, .int .i64 0, .int .i64 0, .bool false, .int .i64 0, .slice none 0 0] #[.int .i64 0, .int .i64 fl, .int .i64 st, .slice none 0 0, .int .i64 0, .int .u32 0, .int .i64 0, .int .i64 0, .int .i64 0, .bool false, .int .i64 0, .slice none 0 0] 36 rfl rfl (HRES.out _ F3.out).1 rfl (by kernel_rfl) (by simp [Value.oneCell']) ?_
  intro w4 H4 F4
  refine hK.out _ _ ((F4.out.block _ (lt_of_heap A3.out) (by omega)).trans A3.out) (fun hHeld3 => ?_)
  clear hK K
  refine wpAnyH_ready (rs := [3]) (by kernel_rfl) (by simp) ?_
  refine AllReadyH.cons rfl (fun K hK => ?_) AllReadyH.nil
  go_simp
  refine hK.out _ _ hHeld3 (fun _ => ?_)
  clear hK K
  refine wpAnyH_ready (rs := [4]) (by kernel_rfl) (by simp) ?_
  refine AllReadyH.cons rfl (fun K hK => ?_) AllReadyH.nil
  refine stepR_storeB rfl rfl 38 (.tmp 6) (.tmp 40) rfl (w.heap.size + 2) #[.bool false, .int .i64 0, .int .i64 0] #[.bool true, .int .i64 0, .int .i64 6] 38 rfl rfl ((F4.out.block _ (lt_of_heap (HRES.out _ F3.out).2) (by omega)).trans (HRES.out _ F3.out).2) rfl (by kernel_rfl) (by simp [Value.oneCell']) ?_
  intro w5 H5 F5
  refine hK.out _ _ ((F5.out.block _ (lt_of_heap hHeld3) (by omega)).trans hHeld3) (fun _ => ?_)
  clear hK K
  refine wpAnyH_done (by kernel_rfl) ?_ _
  go_wp2_with (fail)
  obtain ⟨r0, r1, r2, r3, r4, r5, r6, r7, r8, r9, r10, r11⟩ := cells12 ((F5.out.block _ (lt_of_heap H4.out) (by omega)).trans H4.out)
  obtain ⟨s0, s1, s2⟩ := cells3 H5.out
  refine bodyPost_ret (v := .tuple #[.agg #[.int .i64 0, .int .i64 fl, .int .i64 st, .slice none 0 0, .int .i64 0, .int .u32 0, .int .i64 0, .int .i64 0, .int .i64 0, .bool false, .int .i64 0, .slice none 0 0], .slice none 0 0, .agg #[.bool true, .int .i64 0, .int .i64 6]]) (by simp [results, Try.results36, go_sem, r0, r1, r2, r3, r4, r5, r6, r7, r8, r9, r10, r11, s0, s1, s2]) rfl ?_
  refine ⟨none, 0, 0, rfl, ?_, fun h => by cases h⟩
  exact ((((HFW.out.mono (T := fun k => w.heap.size ≤ k) (fun _ _ e => e.elim)).trans (F3.out.mono (fun k _ e => by omega))).trans (F4.out.mono (fun k _ e => by omega))).trans (F5.out.mono (fun k _ e => by omega))).mono (fun k hk e => by omega)

theorem pt_0p_o (fl st : Int) (a : Option Addr) (len cap : Nat) (b : List UInt8) (w : World) (h0 : 0 ≤ fl) (h1 : fl ≤ 255) (hs : SrcAt w a b) (hl : b.length = len) (hc : len ≤ cap) (hm : len ≤ 16777215) (h8 : has fl 8 = true) (hsh : 1 ≤ len) (hov : len - 1 - 0 < (b.getD 0 0).toNat) :
    Calls Try.prog 36 #[.agg #[.int .i64 0, .int .i64 fl, .int .i64 st, .slice none 0 0, .int .i64 0, .int .u32 0, .int .i64 0, .int .i64 0, .int .i64 0, .bool false, .int .i64 0, .slice none 0 0], .slice a len cap] w fun e w' => PtAs w 0 fl st (b.getD 0 0).toNat 1 ([]) e w' := by
  obtain ⟨W, hW⟩ : ∃ W, W = ((w.alloc (.cells #[.int .i64 0, .int .i64 fl, .int .i64 st, .slice none 0 0, .int .i64 0, .int .u32 0, .int .i64 0, .int .i64 0, .int .i64 0, .bool false, .int .i64 0, .slice none 0 0] 36)).alloc (.cells #[.int .i64 0, .int .i64 0, .int .i64 0, .slice none 0 0, .int .i64 0, .int .u32 0, .int .i64 0, .int .i64 0, .int .i64 0, .bool false, .int .i64 0, .slice none 0 0] 36)).alloc (.cells #[.bool false, .int .i64 0, .int .i64 0] 38) := ⟨_, rfl⟩
  have HFW : Hid (Fr (fun _ => False) w W) := by rw [hW]; exact (((Fr.refl _ _).alloc _).alloc _).alloc _
  have A0 : Hid (W.heap[w.heap.size]? = some (.cells #[.int .i64 0, .int .i64 fl, .int .i64 st, .slice none 0 0, .int .i64 0, .int .u32 0, .int .i64 0, .int .i64 0, .int .i64 0, .bool false, .int .i64 0, .slice none 0 0] 36 (0, 0))) := by rw [hW]; exact past_at _ (past_at _ (heap_alloc_new w _))
  have hr1 : W.heap[w.heap.size + 1]? = some (.cells #[.int .i64 0, .int .i64 0, .int .i64 0, .slice none 0 0, .int .i64 0, .int .u32 0, .int .i64 0, .int .i64 0, .int .i64 0, .bool false, .int .i64 0, .slice none 0 0] 36 (0, 0)) := by rw [hW]; exact past_at _ (last_at _ (by simp))
  have hr2 : W.heap[w.heap.size + 2]? = some (.cells #[.bool false, .int .i64 0, .int .i64 0] 38 (0, 0)) := by rw [hW]; exact last_at _ (by simp)
  have HRES : Hid (∀ w', Fr (fun k => k = w.heap.size) W w' → w'.heap[w.heap.size + 1]? = some (.cells #[.int .i64 0, .int .i64 0, .int .i64 0, .slice none 0 0, .int .i64 0, .int .u32 0, .int .i64 0, .int .i64 0, .int .i64 0, .bool false, .int .i64 0, .slice none 0 0] 36 (0, 0)) ∧ w'.heap[w.heap.size + 2]? = some (.cells #[.bool false, .int .i64 0, .int .i64 0] 38 (0, 0))) := fun w' hf => ⟨(hf.block _ (lt_of_heap hr1) (by omega)).trans hr1, (hf.block _ (lt_of_heap hr2) (by omega)).trans hr2⟩
  have K3 : ∀ w, Calls Try.prog 39 #[.int .i64 0] w fun e w' => e = .returned (.bool true) ∧ w = w' := fun w => by have h := rpadded_in 0 w; rwa [show canP 0 = true by decide] at h
  have K4 : ∀ w, Calls Try.prog 40 #[.int .i64 fl, .int .i64 8] w fun e w' => e = .returned (.bool true) ∧ w = w' := fun w => by have h := has_in fl 8 w (by omega) h0 h1; rw [← h8]; exact h
  have HS : Hid (SrcAt w a b) := hs
  have HL : Hid (b.length = len) := hl
  obtain ⟨c0, c1, c2, c3, c4, c5, c6, c7, c8, c9, c10, c11⟩ := cells12 A0.out
  obtain ⟨ad, rfl, hc1⟩ := hs 0 _ (getD_some b 0 (by omega))
  have hadb : ad.block < w.heap.size := by
    have := World.block_lt_of_cell? _ _ hc1
    simpa [Addr.add] using this
  have hspot : ad.spot = none := by
    have := World.cell?_spot hc1
    simpa [Addr.add] using this
  obtain ⟨bb, oo, ss⟩ := ad
  dsimp only at hspot hadb
  subst hspot
  have HAD : Hid (bb < w.heap.size) := hadb
  have d0 : W.cell? ⟨bb, oo, none⟩ = some (.int .u8 (b.getD 0 0).toNat) := src_at (hs.oldF HFW.out) rfl 0 (by omega)
  obtain ⟨dp, hcut, hcs⟩ := cutF (some ⟨bb, oo, none⟩) len cap 1 b hl hc (by omega)
  have hcut' : ∀ w, (Instr.slice 31 (.slice (some ⟨bb, oo, none⟩) len cap) (some (.int .i64 1)) none none).run Try.prog w = .ok (.slice dp (len - 1) (cap - 1)) w := hcut
  obtain ⟨l1, hl1⟩ : ∃ l1, len - 1 = l1 := ⟨_, rfl⟩
  obtain ⟨cp1, hcp1⟩ : ∃ cp1, cap - 1 = cp1 := ⟨_, rfl⟩
  obtain ⟨x, hx⟩ : ∃ x : UInt8, b.getD 0 0 = x := ⟨_, rfl⟩
  rw [hl1, hcp1] at hcut'
  rw [hl1, hx] at hov
  rw [hx] at d0
  rw [hx]
  have hxb := x.toNat_lt
  have hw8 : IntKind.i64.wrap (x.toNat : Int) = (x.toNat : Int) := by rw [IntKind.wrap_i64]; omega
  have z4 : W.frozen? ⟨w.heap.size, 4, none⟩ = false := frozen_of_heap A0.out
  have A1 : Hid ((W.setCell ⟨w.heap.size, 4, none⟩ (.int .i64 (x.toNat : Int))).heap[w.heap.size]? = some (.cells #[.int .i64 0, .int .i64 fl, .int .i64 st, .slice none 0 0, .int .i64 (x.toNat : Int), .int .u32 0, .int .i64 0, .int .i64 0, .int .i64 0, .bool false, .int .i64 0, .slice none 0 0] 36 (0, 0))) := block_set A0.out
  have F1 : Hid (Fr (fun k => k = w.heap.size) W (W.setCell ⟨w.heap.size, 4, none⟩ (.int .i64 (x.toNat : Int)))) := (Fr.refl _ _).setB _ _
  have hlen1 : l1 ≤ 16777215 := by omega
  have hlb : 0 ≤ l1 := by omega
  have hws : IntKind.i64.wrap ((l1 : Int) - 0) = (l1 : Int) - 0 := by rw [IntKind.wrap_i64]; omega
  clear hcut hcs hl1 hcp1 hx hadb hc1 hs hl hr1 hr2
  have hgt : (l1 : Int) - 0 < (x.toNat : Int) := by omega
  have hgt2 : l1 < x.toNat := by omega
  go_enter Try.func36, Try.ntmps36
  go_wp2_with (fail)
  rw [← hW]
  clear hW
  go_wp2_with first
    | (go_at_call 39; refine (K3 _).mono ?_; rintro e w' ⟨rfl, rfl⟩)
    | (go_at_call 40; refine (K4 _).mono ?_; rintro e w' ⟨rfl, rfl⟩)
  refine wp_region_held_drew (S := fun w2 => w2.heap[w.heap.size]? = some (.cells #[.int .i64 0, .int .i64 fl, .int .i64 st, .slice none 0 0, .int .i64 (x.toNat : Int), .int .u32 0, .int .i64 0, .int .i64 0, .int .i64 0, .bool false, .int .i64 0, .slice none 0 0] 36 (0, 0))) (by kernel_rfl) A1.out (fun hHeld => ?_)
  refine wpAnyH_take (i := 0) (oi := _) (v := .agg #[.int .i64 0, .int .i64 fl, .int .i64 st, .slice none 0 0, .int .i64 (x.toNat : Int), .int .u32 0, .int .i64 0, .int .i64 0, .int .i64 0, .bool false, .int .i64 0, .slice none 0 0]) rfl (by kernel_rfl) (by kernel_rfl) (by kernel_rfl) (fun _ _ _ h => h) (Or.inl ⟨by kernel_rfl, fun w2 hw => by obtain ⟨c0, c1, c2, c3, c4, c5, c6, c7, c8, c9, c10, c11⟩ := cells12 hw; go_simp⟩) hHeld ?_
  simp only [Act.put, List.getElem_toArray, List.getElem_cons_zero, List.setIfInBounds_toArray, List.set_cons_zero, List.set_cons_succ]
  refine wpAnyH_ready (rs := [1]) (by kernel_rfl) (by simp) ?_
  refine AllReadyH.cons rfl (fun K hK => ?_) AllReadyH.nil
  go_simp
  refine (fault_in 1 _).mono ?_
  rintro e w3 ⟨rfl, hf3⟩
  have F3 : Hid (Fr (fun k => k = w.heap.size) W w3) := F1.out.trans (((Fr.refl _ _).drew.trans hf3).mono (fun _ _ e => e.elim))
  have A3 : Hid (w3.heap[w.heap.size]? = some (.cells #[.int .i64 0, .int .i64 fl, .int .i64 st, .slice none 0 0, .int .i64 (x.toNat : Int), .int .u32 0, .int .i64 0, .int .i64 0, .int .i64 0, .bool false, .int .i64 0, .slice none 0 0] 36 (0, 0))) := (((Fr.refl (fun _ => False) _).drew.trans hf3).block _ (lt_of_heap A1.out) id).trans A1.out
  refine hK.out _ _ A3.out (fun hHeld2 => ?_)
  clear hK K
  refine wpAnyH_ready (rs := [2]) (by kernel_rfl) (by simp) ?_
  refine AllReadyH.cons rfl (fun K hK => ?_) AllReadyH.nil
  refine stepR_storeB rfl rfl 36 (.tmp 4) (.tmp 69) rfl (w.heap.size + 1) #[.int .i64 0, .int .i64 0, .int .i64 0, .slice none 0 0, .int .i64 0, .int .u32 0, .int .i64 0, .int .i64 0, .int .i64 0, .bool false, .int .i64 0, .slice none 0 0] #[.int .i64 0, .int .i64 fl, .int .i64 st, .slice none 0 0, .int .i64 (x.toNat : Int), .int .u32 0, .int .i64 0, .int .i64 0, .int .i64 0, .bool false, .int .i64 0, .slice none 0 0] 36 rfl rfl (HRES.out _ F3.out).1 rfl (by kernel_rfl) (by simp [Value.oneCell']) ?_
  intro w4 H4 F4
  refine hK.out _ _ ((F4.out.block _ (lt_of_heap A3.out) (by omega)).trans A3.out) (fun hHeld3 => ?_)
  clear hK K
  refine wpAnyH_ready (rs := [3]) (by kernel_rfl) (by simp) ?_
  refine AllReadyH.cons rfl (fun K hK => ?_) AllReadyH.nil
  go_simp
  refine hK.out _ _ hHeld3 (fun _ => ?_)
  clear hK K
  refine wpAnyH_ready (rs := [4]) (by kernel_rfl) (by simp) ?_
  refine AllReadyH.cons rfl (fun K hK => ?_) AllReadyH.nil
  refine stepR_storeB rfl rfl 38 (.tmp 6) (.tmp 70) rfl (w.heap.size + 2) #[.bool false, .int .i64 0, .int .i64 0] #[.bool true, .int .i64 0, .int .i64 1] 38 rfl rfl ((F4.out.block _ (lt_of_heap (HRES.out _ F3.out).2) (by omega)).trans (HRES.out _ F3.out).2) rfl (by kernel_rfl) (by simp [Value.oneCell']) ?_
  intro w5 H5 F5
  refine hK.out _ _ ((F5.out.block _ (lt_of_heap hHeld3) (by omega)).trans hHeld3) (fun _ => ?_)
  clear hK K
  refine wpAnyH_done (by kernel_rfl) ?_ _
  go_wp2_with (fail)
  obtain ⟨r0, r1, r2, r3, r4, r5, r6, r7, r8, r9, r10, r11⟩ := cells12 ((F5.out.block _ (lt_of_heap H4.out) (by omega)).trans H4.out)
  obtain ⟨s0, s1, s2⟩ := cells3 H5.out
  refine bodyPost_ret (v := .tuple #[.agg #[.int .i64 0, .int .i64 fl, .int .i64 st, .slice none 0 0, .int .i64 (x.toNat : Int), .int .u32 0, .int .i64 0, .int .i64 0, .int .i64 0, .bool false, .int .i64 0, .slice none 0 0], .slice none 0 0, .agg #[.bool true, .int .i64 0, .int .i64 1]]) (by simp [results, Try.results36, go_sem, r0, r1, r2, r3, r4, r5, r6, r7, r8, r9, r10, r11, s0, s1, s2]) rfl ?_
  refine ⟨none, 0, 0, rfl, ?_, fun h => by cases h⟩
  exact ((((HFW.out.mono (T := fun k => w.heap.size ≤ k) (fun _ _ e => e.elim)).trans (F3.out.mono (fun k _ e => by omega))).trans (F4.out.mono (fun k _ e => by omega))).trans (F5.out.mono (fun k _ e => by omega))).mono (fun k hk e => by omega)

theorem pt_1p_s (fl st : Int) (a : Option Addr) (len cap : Nat) (b : List UInt8) (w : World) (h0 : 0 ≤ fl) (h1 : fl ≤ 255) (hs : SrcAt w a b) (hl : b.length = len) (hc : len ≤ cap) (hm : len ≤ 16777215) (h8 : has fl 8 = true) (hq : has fl 32 = false) (hsh : len < 1) :
    Calls Try.prog 36 #[.agg #[.int .i64 1, .int .i64 fl, .int .i64 st, .slice none 0 0, .int .i64 0, .int .u32 0, .int .i64 0, .int .i64 0, .int .i64 0, .bool false, .int .i64 0, .slice none 0 0], .slice a len cap] w fun e w' => PtAs w 1 fl st 0 6 ([]) e w' := by
  obtain ⟨W, hW⟩ : ∃ W, W = ((w.alloc (.cells #[.int .i64 1, .int .i64 fl, .int .i64 st, .slice none 0 0, .int .i64 0, .int .u32 0, .int .i64 0, .int .i64 0, .int .i64 0, .bool false, .int .i64 0, .slice none 0 0] 36)).alloc (.cells #[.int .i64 0, .int .i64 0, .int .i64 0, .slice none 0 0, .int .i64 0, .int .u32 0, .int .i64 0, .int .i64 0, .int .i64 0, .bool false, .int .i64 0, .slice none 0 0] 36)).alloc (.cells #[.bool false, .int .i64 0, .int .i64 0] 38) := ⟨_, rfl⟩
  have HFW : Hid (Fr (fun _ => False) w W) := by rw [hW]; exact (((Fr.refl _ _).alloc _).alloc _).alloc _
  have A0 : Hid (W.heap[w.heap.size]? = some (.cells #[.int .i64 1, .int .i64 fl, .int .i64 st, .slice none 0 0, .int .i64 0, .int .u32 0, .int .i64 0, .int .i64 0, .int .i64 0, .bool false, .int .i64 0, .slice none 0 0] 36 (0, 0))) := by rw [hW]; exact past_at _ (past_at _ (heap_alloc_new w _))
  have hr1 : W.heap[w.heap.size + 1]? = some (.cells #[.int .i64 0, .int .i64 0, .int .i64 0, .slice none 0 0, .int .i64 0, .int .u32 0, .int .i64 0, .int .i64 0, .int .i64 0, .bool false, .int .i64 0, .slice none 0 0] 36 (0, 0)) := by rw [hW]; exact past_at _ (last_at _ (by simp))
  have hr2 : W.heap[w.heap.size + 2]? = some (.cells #[.bool false, .int .i64 0, .int .i64 0] 38 (0, 0)) := by rw [hW]; exact last_at _ (by simp)
  have HRES : Hid (∀ w', Fr (fun k => k = w.heap.size) W w' → w'.heap[w.heap.size + 1]? = some (.cells #[.int .i64 0, .int .i64 0, .int .i64 0, .slice none 0 0, .int .i64 0, .int .u32 0, .int .i64 0, .int .i64 0, .int .i64 0, .bool false, .int .i64 0, .slice none 0 0] 36 (0, 0)) ∧ w'.heap[w.heap.size + 2]? = some (.cells #[.bool false, .int .i64 0, .int .i64 0] 38 (0, 0))) := fun w' hf => ⟨(hf.block _ (lt_of_heap hr1) (by omega)).trans hr1, (hf.block _ (lt_of_heap hr2) (by omega)).trans hr2⟩
  have K3 : ∀ w, Calls Try.prog 39 #[.int .i64 1] w fun e w' => e = .returned (.bool true) ∧ w = w' := fun w => by have h := rpadded_in 1 w; rwa [show canP 1 = true by decide] at h
  have K4 : ∀ w, Calls Try.prog 40 #[.int .i64 fl, .int .i64 8] w fun e w' => e = .returned (.bool true) ∧ w = w' := fun w => by have h := has_in fl 8 w (by omega) h0 h1; rw [← h8]; exact h
  have K5 : ∀ w, Calls Try.prog 41 #[.int .i64 1, .int .i64 fl] w fun e w' => e = .returned (.bool false) ∧ w = w' := fun w => by have h := prio_in 1 fl w h0 h1; rwa [show prioB 1 fl = false by rw [← hq]; simp [prioB]] at h
  have HS : Hid (SrcAt w a b) := hs
  have HL : Hid (b.length = len) := hl
  obtain ⟨c0, c1, c2, c3, c4, c5, c6, c7, c8, c9, c10, c11⟩ := cells12 A0.out
  have A1 : Hid (W.heap[w.heap.size]? = some (.cells #[.int .i64 1, .int .i64 fl, .int .i64 st, .slice none 0 0, .int .i64 0, .int .u32 0, .int .i64 0, .int .i64 0, .int .i64 0, .bool false, .int .i64 0, .slice none 0 0] 36 (0, 0))) := A0.out
  have F1 : Hid (Fr (fun k => k = w.heap.size) W W) := Fr.refl _ _
  clear hs hl hr1 hr2
  go_enter Try.func36, Try.ntmps36
  go_wp2_with (fail)
  rw [← hW]
  clear hW
  go_wp2_with first
    | (go_at_call 39; refine (K3 _).mono ?_; rintro e w' ⟨rfl, rfl⟩)
    | (go_at_call 40; refine (K4 _).mono ?_; rintro e w' ⟨rfl, rfl⟩)
    | (go_at_call 41; refine (K5 _).mono ?_; rintro e w' ⟨rfl, rfl⟩)
  refine wp_region_held_drew (S := fun w2 => w2.heap[w.heap.size]? = some (.cells #[.int .i64 1, .int .i64 fl, .int .i64 st, .slice none 0 0, .int .i64 0, .int .u32 0, .int .i64 0, .int .i64 0, .int .i64 0, .bool false, .int .i64 0, .slice none 0 0] 36 (0, 0))) (by kernel_rfl) A1.out (fun hHeld => ?_)
  refine wpAnyH_take (i := 0) (oi := _) (v := .agg #[.int .i64 1, .int .i64 fl, .int .i64 st, .slice none 0 0, .int .i64 0, .int .u32 0, .int .i64 0, .int .i64 0, .int .i64 0, .bool false, .int .i64 0, .slice none 0 0]) rfl (by kernel_rfl) (by kernel_rfl) (by kernel_rfl) (fun _ _ _ h => h) (Or.inl ⟨by kernel_rfl, fun w2 hw => by obtain ⟨c0, c1, c2, c3, c4, c5, c6, c7, c8, c9, c10, c11⟩ := cells12 hw; go_simp⟩) hHeld ?_
  simp only [Act.put, List.getElem_toArray, List.getElem_cons_zero, List.setIfInBounds_toArray, List.set_cons_zero, List.set_cons_succ]
  refine wpAnyH_ready (rs := [1]) (by kernel_rfl) (by simp) ?_
  refine AllReadyH.cons rfl (fun K hK => ?_) AllReadyH.nil
  go_simp
  refine (fault_in 6 _).mono ?_
  rintro e w3 ⟨rfl, hf3⟩
  have F3 : Hid (Fr (fun k => k = w.heap.size) W w3) := F1.out.trans (((Fr.refl _ _).drew.trans hf3).mono (fun _ _ e => e.elim))
  have A3 : Hid (w3.heap[w.heap.size]? = some (.cells #[.int .i64 1, .int .i64 fl, .int .i64 st, .slice none 0 0, .int .i64 0, .int .u32 0, .int .i64 0, .int .i64 0, .int .i64 0, .bool false, .int .i64 0, .slice none 0 0] 36 (0, 0))) := (((Fr.refl (fun _ => False) _).drew.trans hf3).block _ (lt_of_heap A1.out) id).trans A1.out
  refine hK.out _ _ A3.out (fun hHeld2 => ?_)
  clear hK K
  refine wpAnyH_ready (rs := [2]) (by kernel_rfl) (by simp) ?_
  refine AllReadyH.cons rfl (fun K hK => ?_) AllReadyH.nil
  refine stepR_storeB rfl rfl 36 (.tmp 4) (.tmp 39) rfl (w.heap.size + 1) #[.int .i64 0, .int .i64 0, .int .i64 0, .slice none 0 0, .int .i64 0, .int .u32 0, .int .i64 0, .int .i64 0, .int .i64 0, .bool false, .int .i64 0, .slice none 0 0] #[.int .i64 1, .int .i64 fl, .int .i64 st, .slice none 0 0, .int .i64 0, .int .u32 0, .int .i64 0, .int .i64 0, .int .i64 0, .bool false, .int .i64 0, .slice none 0 0] 36 rfl rfl (HRES.out _ F3.out).1 rfl (by kernel_rfl) (by simp [Value.oneCell']) ?_
  intro w4 H4 F4
  refine hK.out _ _ ((F4.out.block _ (lt_of_heap A3.out) (by omega)).trans A3.out) (fun hHeld3 => ?_)
  clear hK K
  refine wpAnyH_ready (rs := [3]) (by kernel_rfl) (by simp) ?_
  refine AllReadyH.cons rfl (fun K hK => ?_) AllReadyH.nil
  go_simp
  refine hK.out _ _ hHeld3 (fun _ => ?_)
  clear hK K
  refine wpAnyH_ready (rs := [4]) (by kernel_rfl) (by simp) ?_
  refine AllReadyH.cons rfl (fun K hK => ?_) AllReadyH.nil
  refine stepR_storeB rfl rfl 38 (.tmp 6) (.tmp 40) rfl (w.heap.size + 2) #[.bool false, .int .i64 0, .int .i64 0] #[.bool true, .int .i64 0, .int .i64 6] 38 rfl rfl ((F4.out.block _ (lt_of_heap (HRES.out _ F3.out).2) (by omega)).trans (HRES.out _ F3.out).2) rfl (by kernel_rfl) (by simp [Value.oneCell']) ?_
  intro w5 H5 F5
  refine hK.out _ _ ((F5.out.block _ (lt_of_heap hHeld3) (by omega)).trans hHeld3) (fun _ => ?_)
  clear hK K
  refine wpAnyH_done (by kernel_rfl) ?_ _
  go_wp2_with (fail)
  obtain ⟨r0, r1, r2, r3, r4, r5, r6, r7, r8, r9, r10, r11⟩ := cells12 ((F5.out.block _ (lt_of_heap H4.out) (by omega)).trans H4.out)
  obtain ⟨s0, s1, s2⟩ := cells3 H5.out
  refine bodyPost_ret (v := .tuple #[.agg #[.int .i64 1, .int .i64 fl, .int .i64 st, .slice none 0 0, .int .i64 0, .int .u32 0, .int .i64 0, .int .i64 0, .int .i64 0, .bool false, .int .i64 0, .slice none 0 0], .slice none 0 0, .agg #[.bool true, .int .i64 0, .int .i64 6]]) (by simp [results, Try.results36, go_sem, r0, r1, r2, r3, r4, r5, r6, r7, r8, r9, r10, r11, s0, s1, s2]) rfl ?_
  refine ⟨none, 0, 0, rfl, ?_, fun h => by cases h⟩
  exact ((((HFW.out.mono (T := fun k => w.heap.size ≤ k) (fun _ _ e => e.elim)).trans (F3.out.mono (fun k _ e => by omega))).trans (F4.out.mono (fun k _ e => by omega))).trans (F5.out.mono (fun k _ e => by omega))).mono (fun k hk e => by omega)

theorem pt_1p_o (fl st : Int) (a : Option Addr) (len cap : Nat) (b : List UInt8) (w : World) (h0 : 0 ≤ fl) (h1 : fl ≤ 255) (hs : SrcAt w a b) (hl : b.length = len) (hc : len ≤ cap) (hm : len ≤ 16777215) (h8 : has fl 8 = true) (hq : has fl 32 = false) (hsh : 1 ≤ len) (hov : len - 1 - 0 < (b.getD 0 0).toNat) :
    Calls Try.prog 36 #[.agg #[.int .i64 1, .int .i64 fl, .int .i64 st, .slice none 0 0, .int .i64 0, .int .u32 0, .int .i64 0, .int .i64 0, .int .i64 0, .bool false, .int .i64 0, .slice none 0 0], .slice a len cap] w fun e w' => PtAs w 1 fl st (b.getD 0 0).toNat 1 ([]) e w' := by
  obtain ⟨W, hW⟩ : ∃ W, W = ((w.alloc (.cells #[.int .i64 1, .int .i64 fl, .int .i64 st, .slice none 0 0, .int .i64 0, .int .u32 0, .int .i64 0, .int .i64 0, .int .i64 0, .bool false, .int .i64 0, .slice none 0 0] 36)).alloc (.cells #[.int .i64 0, .int .i64 0, .int .i64 0, .slice none 0 0, .int .i64 0, .int .u32 0, .int .i64 0, .int .i64 0, .int .i64 0, .bool false, .int .i64 0, .slice none 0 0] 36)).alloc (.cells #[.bool false, .int .i64 0, .int .i64 0] 38) := ⟨_, rfl⟩
  have HFW : Hid (Fr (fun _ => False) w W) := by rw [hW]; exact (((Fr.refl _ _).alloc _).alloc _).alloc _
  have A0 : Hid (W.heap[w.heap.size]? = some (.cells #[.int .i64 1, .int .i64 fl, .int .i64 st, .slice none 0 0, .int .i64 0, .int .u32 0, .int .i64 0, .int .i64 0, .int .i64 0, .bool false, .int .i64 0, .slice none 0 0] 36 (0, 0))) := by rw [hW]; exact past_at _ (past_at _ (heap_alloc_new w _))
  have hr1 : W.heap[w.heap.size + 1]? = some (.cells #[.int .i64 0, .int .i64 0, .int .i64 0, .slice none 0 0, .int .i64 0, .int .u32 0, .int .i64 0, .int .i64 0, .int .i64 0, .bool false, .int .i64 0, .slice none 0 0] 36 (0, 0)) := by rw [hW]; exact past_at _ (last_at _ (by simp))
  have hr2 : W.heap[w.heap.size + 2]? = some (.cells #[.bool false, .int .i64 0, .int .i64 0] 38 (0, 0)) := by rw [hW]; exact last_at _ (by simp)
  have HRES : Hid (∀ w', Fr (fun k => k = w.heap.size) W w' → w'.heap[w.heap.size + 1]? = some (.cells #[.int .i64 0, .int .i64 0, .int .i64 0, .slice none 0 0, .int .i64 0, .int .u32 0, .int .i64 0, .int .i64 0, .int .i64 0, .bool false, .int .i64 0, .slice none 0 0] 36 (0, 0)) ∧ w'.heap[w.heap.size + 2]? = some (.cells #[.bool false, .int .i64 0, .int .i64 0] 38 (0, 0))) := fun w' hf => ⟨(hf.block _ (lt_of_heap hr1) (by omega)).trans hr1, (hf.block _ (lt_of_heap hr2) (by omega)).trans hr2⟩
  have K3 : ∀ w, Calls Try.prog 39 #[.int .i64 1] w fun e w' => e = .returned (.bool true) ∧ w = w' := fun w => by have h := rpadded_in 1 w; rwa [show canP 1 = true by decide] at h
  have K4 : ∀ w, Calls Try.prog 40 #[.int .i64 fl, .int .i64 8] w fun e w' => e = .returned (.bool true) ∧ w = w' := fun w => by have h := has_in fl 8 w (by omega) h0 h1; rw [← h8]; exact h
  have K5 : ∀ w, Calls Try.prog 41 #[.int .i64 1, .int .i64 fl] w fun e w' => e = .returned (.bool false) ∧ w = w' := fun w => by have h := prio_in 1 fl w h0 h1; rwa [show prioB 1 fl = false by rw [← hq]; simp [prioB]] at h
  have HS : Hid (SrcAt w a b) := hs
  have HL : Hid (b.length = len) := hl
  obtain ⟨c0, c1, c2, c3, c4, c5, c6, c7, c8, c9, c10, c11⟩ := cells12 A0.out
  obtain ⟨ad, rfl, hc1⟩ := hs 0 _ (getD_some b 0 (by omega))
  have hadb : ad.block < w.heap.size := by
    have := World.block_lt_of_cell? _ _ hc1
    simpa [Addr.add] using this
  have hspot : ad.spot = none := by
    have := World.cell?_spot hc1
    simpa [Addr.add] using this
  obtain ⟨bb, oo, ss⟩ := ad
  dsimp only at hspot hadb
  subst hspot
  have HAD : Hid (bb < w.heap.size) := hadb
  have d0 : W.cell? ⟨bb, oo, none⟩ = some (.int .u8 (b.getD 0 0).toNat) := src_at (hs.oldF HFW.out) rfl 0 (by omega)
  obtain ⟨dp, hcut, hcs⟩ := cutF (some ⟨bb, oo, none⟩) len cap 1 b hl hc (by omega)
  have hcut' : ∀ w, (Instr.slice 31 (.slice (some ⟨bb, oo, none⟩) len cap) (some (.int .i64 1)) none none).run Try.prog w = .ok (.slice dp (len - 1) (cap - 1)) w := hcut
  obtain ⟨l1, hl1⟩ : ∃ l1, len - 1 = l1 := ⟨_, rfl⟩
  obtain ⟨cp1, hcp1⟩ : ∃ cp1, cap - 1 = cp1 := ⟨_, rfl⟩
  obtain ⟨x, hx⟩ : ∃ x : UInt8, b.getD 0 0 = x := ⟨_, rfl⟩
  rw [hl1, hcp1] at hcut'
  rw [hl1, hx] at hov
  rw [hx] at d0
  rw [hx]
  have hxb := x.toNat_lt
  have hw8 : IntKind.i64.wrap (x.toNat : Int) = (x.toNat : Int) := by rw [IntKind.wrap_i64]; omega
  have z4 : W.frozen? ⟨w.heap.size, 4, none⟩ = false := frozen_of_heap A0.out
  have A1 : Hid ((W.setCell ⟨w.heap.size, 4, none⟩ (.int .i64 (x.toNat : Int))).heap[w.heap.size]? = some (.cells #[.int .i64 1, .int .i64 fl, .int .i64 st, .slice none 0 0, .int .i64 (x.toNat : Int), .int .u32 0, .int .i64 0, .int .i64 0, .int .i64 0, .bool false, .int .i64 0, .slice none 0 0] 36 (0, 0))) := block_set A0.out
  have F1 : Hid (Fr (fun k => k = w.heap.size) W (W.setCell ⟨w.heap.size, 4, none⟩ (.int .i64 (x.toNat : Int)))) := (Fr.refl _ _).setB _ _
  have hlen1 : l1 ≤ 16777215 := by omega
  have hlb : 0 ≤ l1 := by omega
  have hws : IntKind.i64.wrap ((l1 : Int) - 0) = (l1 : Int) - 0 := by rw [IntKind.wrap_i64]; omega
  clear hcut hcs hl1 hcp1 hx hadb hc1 hs hl hr1 hr2
  have hgt : (l1 : Int) - 0 < (x.toNat : Int) := by omega
  have hgt2 : l1 < x.toNat := by omega
  go_enter Try.func36, Try.ntmps36
  go_wp2_with (fail)
  rw [← hW]
  clear hW
  go_wp2_with first
    | (go_at_call 39; refine (K3 _).mono ?_; rintro e w' ⟨rfl, rfl⟩)
    | (go_at_call 40; refine (K4 _).mono ?_; rintro e w' ⟨rfl, rfl⟩)
    | (go_at_call 41; refine (K5 _).mono ?_; rintro e w' ⟨rfl, rfl⟩)
  refine wp_region_held_drew (S := fun w2 => w2.heap[w.heap.size]? = some (.cells #[.int .i64 1, .int .i64 fl, .int .i64 st, .slice none 0 0, .int .i64 (x.toNat : Int), .int .u32 0, .int .i64 0, .int .i64 0, .int .i64 0, .bool false, .int .i64 0, .slice none 0 0] 36 (0, 0))) (by kernel_rfl) A1.out (fun hHeld => ?_)
  refine wpAnyH_take (i := 0) (oi := _) (v := .agg #[.int .i64 1, .int .i64 fl, .int .i64 st, .slice none 0 0, .int .i64 (x.toNat : Int), .int .u32 0, .int .i64 0, .int .i64 0, .int .i64 0, .bool false, .int .i64 0, .slice none 0 0]) rfl (by kernel_rfl) (by kernel_rfl) (by kernel_rfl) (fun _ _ _ h => h) (Or.inl ⟨by kernel_rfl, fun w2 hw => by obtain ⟨c0, c1, c2, c3, c4, c5, c6, c7, c8, c9, c10, c11⟩ := cells12 hw; go_simp⟩) hHeld ?_
  simp only [Act.put, List.getElem_toArray, List.getElem_cons_zero, List.setIfInBounds_toArray, List.set_cons_zero, List.set_cons_succ]
  refine wpAnyH_ready (rs := [1]) (by kernel_rfl) (by simp) ?_
  refine AllReadyH.cons rfl (fun K hK => ?_) AllReadyH.nil
  go_simp
  refine (fault_in 1 _).mono ?_
  rintro e w3 ⟨rfl, hf3⟩
  have F3 : Hid (Fr (fun k => k = w.heap.size) W w3) := F1.out.trans (((Fr.refl _ _).drew.trans hf3).mono (fun _ _ e => e.elim))
  have A3 : Hid (w3.heap[w.heap.size]? = some (.cells #[.int .i64 1, .int .i64 fl, .int .i64 st, .slice none 0 0, .int .i64 (x.toNat : Int), .int .u32 0, .int .i64 0, .int .i64 0, .int .i64 0, .bool false, .int .i64 0, .slice none 0 0] 36 (0, 0))) := (((Fr.refl (fun _ => False) _).drew.trans hf3).block _ (lt_of_heap A1.out) id).trans A1.out
  refine hK.out _ _ A3.out (fun hHeld2 => ?_)
  clear hK K
  refine wpAnyH_ready (rs := [2]) (by kernel_rfl) (by simp) ?_
  refine AllReadyH.cons rfl (fun K hK => ?_) AllReadyH.nil
  refine stepR_storeB rfl rfl 36 (.tmp 4) (.tmp 69) rfl (w.heap.size + 1) #[.int .i64 0, .int .i64 0, .int .i64 0, .slice none 0 0, .int .i64 0, .int .u32 0, .int .i64 0, .int .i64 0, .int .i64 0, .bool false, .int .i64 0, .slice none 0 0] #[.int .i64 1, .int .i64 fl, .int .i64 st, .slice none 0 0, .int .i64 (x.toNat : Int), .int .u32 0, .int .i64 0, .int .i64 0, .int .i64 0, .bool false, .int .i64 0, .slice none 0 0] 36 rfl rfl (HRES.out _ F3.out).1 rfl (by kernel_rfl) (by simp [Value.oneCell']) ?_
  intro w4 H4 F4
  refine hK.out _ _ ((F4.out.block _ (lt_of_heap A3.out) (by omega)).trans A3.out) (fun hHeld3 => ?_)
  clear hK K
  refine wpAnyH_ready (rs := [3]) (by kernel_rfl) (by simp) ?_
  refine AllReadyH.cons rfl (fun K hK => ?_) AllReadyH.nil
  go_simp
  refine hK.out _ _ hHeld3 (fun _ => ?_)
  clear hK K
  refine wpAnyH_ready (rs := [4]) (by kernel_rfl) (by simp) ?_
  refine AllReadyH.cons rfl (fun K hK => ?_) AllReadyH.nil
  refine stepR_storeB rfl rfl 38 (.tmp 6) (.tmp 70) rfl (w.heap.size + 2) #[.bool false, .int .i64 0, .int .i64 0] #[.bool true, .int .i64 0, .int .i64 1] 38 rfl rfl ((F4.out.block _ (lt_of_heap (HRES.out _ F3.out).2) (by omega)).trans (HRES.out _ F3.out).2) rfl (by kernel_rfl) (by simp [Value.oneCell']) ?_
  intro w5 H5 F5
  refine hK.out _ _ ((F5.out.block _ (lt_of_heap hHeld3) (by omega)).trans hHeld3) (fun _ => ?_)
  clear hK K
  refine wpAnyH_done (by kernel_rfl) ?_ _
  go_wp2_with (fail)
  obtain ⟨r0, r1, r2, r3, r4, r5, r6, r7, r8, r9, r10, r11⟩ := cells12 ((F5.out.block _ (lt_of_heap H4.out) (by omega)).trans H4.out)
  obtain ⟨s0, s1, s2⟩ := cells3 H5.out
  refine bodyPost_ret (v := .tuple #[.agg #[.int .i64 1, .int .i64 fl, .int .i64 st, .slice none 0 0, .int .i64 (x.toNat : Int), .int .u32 0, .int .i64 0, .int .i64 0, .int .i64 0, .bool false, .int .i64 0, .slice none 0 0], .slice none 0 0, .agg #[.bool true, .int .i64 0, .int .i64 1]]) (by simp [results, Try.results36, go_sem, r0, r1, r2, r3, r4, r5, r6, r7, r8, r9, r10, r11, s0, s1, s2]) rfl ?_
  refine ⟨none, 0, 0, rfl, ?_, fun h => by cases h⟩
  exact ((((HFW.out.mono (T := fun k => w.heap.size ≤ k) (fun _ _ e => e.elim)).trans (F3.out.mono (fun k _ e => by omega))).trans (F4.out.mono (fun k _ e => by omega))).trans (F5.out.mono (fun k _ e => by omega))).mono (fun k hk e => by omega)

theorem pt_1qp_s (fl st : Int) (a : Option Addr) (len cap : Nat) (b : List UInt8) (w : World) (h0 : 0 ≤ fl) (h1 : fl ≤ 255) (hs : SrcAt w a b) (hl : b.length = len) (hc : len ≤ cap) (hm : len ≤ 16777215) (h8 : has fl 8 = true) (hq : has fl 32 = true) (hsh : len < 6) :
    Calls Try.prog 36 #[.agg #[.int .i64 1, .int .i64 fl, .int .i64 st, .slice none 0 0, .int .i64 0, .int .u32 0, .int .i64 0, .int .i64 0, .int .i64 0, .bool false, .int .i64 0, .slice none 0 0], .slice a len cap] w fun e w' => PtAs w 1 fl st 0 6 ([]) e w' := by
  obtain ⟨W, hW⟩ : ∃ W, W = ((w.alloc (.cells #[.int .i64 1, .int .i64 fl, .int .i64 st, .slice none 0 0, .int .i64 0, .int .u32 0, .int .i64 0, .int .i64 0, .int .i64 0, .bool false, .int .i64 0, .slice none 0 0] 36)).alloc (.cells #[.int .i64 0, .int .i64 0, .int .i64 0, .slice none 0 0, .int .i64 0, .int .u32 0, .int .i64 0, .int .i64 0, .int .i64 0, .bool false, .int .i64 0, .slice none 0 0] 36)).alloc (.cells #[.bool false, .int .i64 0, .int .i64 0] 38) := ⟨_, rfl⟩
  have HFW : Hid (Fr (fun _ => False) w W) := by rw [hW]; exact (((Fr.refl _ _).alloc _).alloc _).alloc _
  have A0 : Hid (W.heap[w.heap.size]? = some (.cells #[.int .i64 1, .int .i64 fl, .int .i64 st, .slice none 0 0, .int .i64 0, .int .u32 0, .int .i64 0, .int .i64 0, .int .i64 0, .bool false, .int .i64 0, .slice none 0 0] 36 (0, 0))) := by rw [hW]; exact past_at _ (past_at _ (heap_alloc_new w _))
  have hr1 : W.heap[w.heap.size + 1]? = some (.cells #[.int .i64 0, .int .i64 0, .int .i64 0, .slice none 0 0, .int .i64 0, .int .u32 0, .int .i64 0, .int .i64 0, .int .i64 0, .bool false, .int .i64 0, .slice none 0 0] 36 (0, 0)) := by rw [hW]; exact past_at _ (last_at _ (by simp))
  have hr2 : W.heap[w.heap.size + 2]? = some (.cells #[.bool false, .int .i64 0, .int .i64 0] 38 (0, 0)) := by rw [hW]; exact last_at _ (by simp)
  have HRES : Hid (∀ w', Fr (fun k => k = w.heap.size) W w' → w'.heap[w.heap.size + 1]? = some (.cells #[.int .i64 0, .int .i64 0, .int .i64 0, .slice none 0 0, .int .i64 0, .int .u32 0, .int .i64 0, .int .i64 0, .int .i64 0, .bool false, .int .i64 0, .slice none 0 0] 36 (0, 0)) ∧ w'.heap[w.heap.size + 2]? = some (.cells #[.bool false, .int .i64 0, .int .i64 0] 38 (0, 0))) := fun w' hf => ⟨(hf.block _ (lt_of_heap hr1) (by omega)).trans hr1, (hf.block _ (lt_of_heap hr2) (by omega)).trans hr2⟩
  have K3 : ∀ w, Calls Try.prog 39 #[.int .i64 1] w fun e w' => e = .returned (.bool true) ∧ w = w' := fun w => by have h := rpadded_in 1 w; rwa [show canP 1 = true by decide] at h
  have K4 : ∀ w, Calls Try.prog 40 #[.int .i64 fl, .int .i64 8] w fun e w' => e = .returned (.bool true) ∧ w = w' := fun w => by have h := has_in fl 8 w (by omega) h0 h1; rw [← h8]; exact h
  have K5 : ∀ w, Calls Try.prog 41 #[.int .i64 1, .int .i64 fl] w fun e w' => e = .returned (.bool true) ∧ w = w' := fun w => by have h := prio_in 1 fl w h0 h1; rwa [show prioB 1 fl = true by rw [← hq]; simp [prioB]] at h
  have HS : Hid (SrcAt w a b) := hs
  have HL : Hid (b.length = len) := hl
  obtain ⟨c0, c1, c2, c3, c4, c5, c6, c7, c8, c9, c10, c11⟩ := cells12 A0.out
  have A1 : Hid (W.heap[w.heap.size]? = some (.cells #[.int .i64 1, .int .i64 fl, .int .i64 st, .slice none 0 0, .int .i64 0, .int .u32 0, .int .i64 0, .int .i64 0, .int .i64 0, .bool false, .int .i64 0, .slice none 0 0] 36 (0, 0))) := A0.out
  have F1 : Hid (Fr (fun k => k = w.heap.size) W W) := Fr.refl _ _
  clear hs hl hr1 hr2
  go_enter Try.func36, Try.ntmps36
  go_wp2_with (fail)
  rw [← hW]
  clear hW
  go_wp2_with first
    | (go_at_call 39; refine (K3 _).mono ?_; rintro e w' ⟨rfl, rfl⟩)
    | (go_at_call 40; refine (K4 _).mono ?_; rintro e w' ⟨rfl, rfl⟩)
    | (go_at_call 41; refine (K5 _).mono ?_; rintro e w' ⟨rfl, rfl⟩)
  refine wp_region_held_drew (S := fun w2 => w2.heap[w.heap.size]? = some (.cells #[.int .i64 1, .int .i64 fl, .int .i64 st, .slice none 0 0, .int .i64 0, .int .u32 0, .int .i64 0, .int .i64 0, .int .i64 0, .bool false, .int .i64 0, .slice none 0 0] 36 (0, 0))) (by kernel_rfl) A1.out (fun hHeld => ?_)
  refine wpAnyH_take (i := 0) (oi := _) (v := .agg #[.int .i64 1, .int .i64 fl, .int .i64 st, .slice none 0 0, .int .i64 0, .int .u32 0, .int .i64 0, .int .i64 0, .int .i64 0, .bool false, .int .i64 0, .slice none 0 0]) rfl (by kernel_rfl) (by kernel_rfl) (by kernel_rfl) (fun _ _ _ h => h) (Or.inl ⟨by kernel_rfl, fun w2 hw => by obtain ⟨c0, c1, c2, c3, c4, c5, c6, c7, c8, c9, c10, c11⟩ := cells12 hw; go_simp⟩) hHeld ?_
  simp only [Act.put, List.getElem_toArray, List.getElem_cons_zero, List.setIfInBounds_toArray, List.set_cons_zero, List.set_cons_succ]
  refine wpAnyH_ready (rs := [1]) (by kernel_rfl) (by simp) ?_
  refine AllReadyH.cons rfl (fun K hK => ?_) AllReadyH.nil
  go_simp
  refine (fault_in 6 _).mono ?_
  rintro e w3 ⟨rfl, hf3⟩
  have F3 : Hid (Fr (fun k => k = w.heap.size) W w3) := F1.out.trans (((Fr.refl _ _).drew.trans hf3).mono (fun _ _ e => e.elim))
  have A3 : Hid (w3.heap[w.heap.size]? = some (.cells #[.int .i64 1, .int .i64 fl, .int .i64 st, .slice none 0 0, .int .i64 0, .int .u32 0, .int .i64 0, .int .i64 0, .int .i64 0, .bool false, .int .i64 0, .slice none 0 0] 36 (0, 0))) := (((Fr.refl (fun _ => False) _).drew.trans hf3).block _ (lt_of_heap A1.out) id).trans A1.out
  refine hK.out _ _ A3.out (fun hHeld2 => ?_)
  clear hK K
  refine wpAnyH_ready (rs := [2]) (by kernel_rfl) (by simp) ?_
  refine AllReadyH.cons rfl (fun K hK => ?_) AllReadyH.nil
  refine stepR_storeB rfl rfl 36 (.tmp 4) (.tmp 39) rfl (w.heap.size + 1) #[.int .i64 0, .int .i64 0, .int .i64 0, .slice none 0 0, .int .i64 0, .int .u32 0, .int .i64 0, .int .i64 0, .int .i64 0, .bool false, .int .i64 0, .slice none 0 0] #[.int .i64 1, .int .i64 fl, .int .i64 st, .slice none 0 0, .int .i64 0, .int .u32 0, .int .i64 0, .int .i64 0, .int .i64 0, .bool false, .int .i64 0, .slice none 0 0] 36 rfl rfl (HRES.out _ F3.out).1 rfl (by kernel_rfl) (by simp [Value.oneCell']) ?_
  intro w4 H4 F4
  refine hK.out _ _ ((F4.out.block _ (lt_of_heap A3.out) (by omega)).trans A3.out) (fun hHeld3 => ?_)
  clear hK K
  refine wpAnyH_ready (rs := [3]) (by kernel_rfl) (by simp) ?_
  refine AllReadyH.cons rfl (fun K hK => ?_) AllReadyH.nil
  go_simp
  refine hK.out _ _ hHeld3 (fun _ => ?_)
  clear hK K
  refine wpAnyH_ready (rs := [4]) (by kernel_rfl) (by simp) ?_
  refine AllReadyH.cons rfl (fun K hK => ?_) AllReadyH.nil
  refine stepR_storeB rfl rfl 38 (.tmp 6) (.tmp 40) rfl (w.heap.size + 2) #[.bool false, .int .i64 0, .int .i64 0] #[.bool true, .int .i64 0, .int .i64 6] 38 rfl rfl ((F4.out.block _ (lt_of_heap (HRES.out _ F3.out).2) (by omega)).trans (HRES.out _ F3.out).2) rfl (by kernel_rfl) (by simp [Value.oneCell']) ?_
  intro w5 H5 F5
  refine hK.out _ _ ((F5.out.block _ (lt_of_heap hHeld3) (by omega)).trans hHeld3) (fun _ => ?_)
  clear hK K
  refine wpAnyH_done (by kernel_rfl) ?_ _
  go_wp2_with (fail)
  obtain ⟨r0, r1, r2, r3, r4, r5, r6, r7, r8, r9, r10, r11⟩ := cells12 ((F5.out.block _ (lt_of_heap H4.out) (by omega)).trans H4.out)
  obtain ⟨s0, s1, s2⟩ := cells3 H5.out
  refine bodyPost_ret (v := .tuple #[.agg #[.int .i64 1, .int .i64 fl, .int .i64 st, .slice none 0 0, .int .i64 0, .int .u32 0, .int .i64 0, .int .i64 0, .int .i64 0, .bool false, .int .i64 0, .slice none 0 0], .slice none 0 0, .agg #[.bool true, .int .i64 0, .int .i64 6]]) (by simp [results, Try.results36, go_sem, r0, r1, r2, r3, r4, r5, r6, r7, r8, r9, r10, r11, s0, s1, s2]) rfl ?_
  refine ⟨none, 0, 0, rfl, ?_, fun h => by cases h⟩
  exact ((((HFW.out.mono (T := fun k => w.heap.size ≤ k) (fun _ _ e => e.elim)).trans (F3.out.mono (fun k _ e => by omega))).trans (F4.out.mono (fun k _ e => by omega))).trans (F5.out.mono (fun k _ e => by omega))).mono (fun k hk e => by omega)

theorem pt_1qp_o (fl st : Int) (a : Option Addr) (len cap : Nat) (b : List UInt8) (w : World) (h0 : 0 ≤ fl) (h1 : fl ≤ 255) (hs : SrcAt w a b) (hl : b.length = len) (hc : len ≤ cap) (hm : len ≤ 16777215) (h8 : has fl 8 = true) (hq : has fl 32 = true) (hsh : 6 ≤ len) (hov : len - 1 - 5 < (b.getD 0 0).toNat) :
    Calls Try.prog 36 #[.agg #[.int .i64 1, .int .i64 fl, .int .i64 st, .slice none 0 0, .int .i64 0, .int .u32 0, .int .i64 0, .int .i64 0, .int .i64 0, .bool false, .int .i64 0, .slice none 0 0], .slice a len cap] w fun e w' => PtAs w 1 fl st (b.getD 0 0).toNat 1 ([]) e w' := by
  obtain ⟨W, hW⟩ : ∃ W, W = ((w.alloc (.cells #[.int .i64 1, .int .i64 fl, .int .i64 st, .slice none 0 0, .int .i64 0, .int .u32 0, .int .i64 0, .int .i64 0, .int .i64 0, .bool false, .int .i64 0, .slice none 0 0] 36)).alloc (.cells #[.int .i64 0, .int .i64 0, .int .i64 0, .slice none 0 0, .int .i64 0, .int .u32 0, .int .i64 0, .int .i64 0, .int .i64 0, .bool false, .int .i64 0, .slice none 0 0] 36)).alloc (.cells #[.bool false, .int .i64 0, .int .i64 0] 38) := ⟨_, rfl⟩
  have HFW : Hid (Fr (fun _ => False) w W) := by rw [hW]; exact (((Fr.refl _ _).alloc _).alloc _).alloc _
  have A0 : Hid (W.heap[w.heap.size]? = some (.cells #[.int .i64 1, .int .i64 fl, .int .i64 st, .slice none 0 0, .int .i64 0, .int .u32 0, .int .i64 0, .int .i64 0, .int .i64 0, .bool false, .int .i64 0, .slice none 0 0] 36 (0, 0))) := by rw [hW]; exact past_at _ (past_at _ (heap_alloc_new w _))
  have hr1 : W.heap[w.heap.size + 1]? = some (.cells #[.int .i64 0, .int .i64 0, .int .i64 0, .slice none 0 0, .int .i64 0, .int .u32 0, .int .i64 0, .int .i64 0, .int .i64 0, .bool false, .int .i64 0, .slice none 0 0] 36 (0, 0)) := by rw [hW]; exact past_at _ (last_at _ (by simp))
  have hr2 : W.heap[w.heap.size + 2]? = some (.cells #[.bool false, .int .i64 0, .int .i64 0] 38 (0, 0)) := by rw [hW]; exact last_at _ (by simp)
  have HRES : Hid (∀ w', Fr (fun k => k = w.heap.size) W w' → w'.heap[w.heap.size + 1]? = some (.cells #[.int .i64 0, .int .i64 0, .int .i64 0, .slice none 0 0, .int .i64 0, .int .u32 0, .int .i64 0, .int .i64 0, .int .i64 0, .bool false, .int .i64 0, .slice none 0 0] 36 (0, 0)) ∧ w'.heap[w.heap.size + 2]? = some (.cells #[.bool false, .int .i64 0, .int .i64 0] 38 (0, 0))) := fun w' hf => ⟨(hf.block _ (lt_of_heap hr1) (by omega)).trans hr1, (hf.block _ (lt_of_heap hr2) (by omega)).trans hr2⟩
  have K3 : ∀ w, Calls Try.prog 39 #[.int .i64 1] w fun e w' => e = .returned (.bool true) ∧ w = w' := fun w => by have h := rpadded_in 1 w; rwa [show canP 1 = true by decide] at h
  have K4 : ∀ w, Calls Try.prog 40 #[.int .i64 fl, .int .i64 8] w fun e w' => e = .returned (.bool true) ∧ w = w' := fun w => by have h := has_in fl 8 w (by omega) h0 h1; rw [← h8]; exact h
  have K5 : ∀ w, Calls Try.prog 41 #[.int .i64 1, .int .i64 fl] w fun e w' => e = .returned (.bool true) ∧ w = w' := fun w => by have h := prio_in 1 fl w h0 h1; rwa [show prioB 1 fl = true by rw [← hq]; simp [prioB]] at h
  have HS : Hid (SrcAt w a b) := hs
  have HL : Hid (b.length = len) := hl
  obtain ⟨c0, c1, c2, c3, c4, c5, c6, c7, c8, c9, c10, c11⟩ := cells12 A0.out
  obtain ⟨ad, rfl, hc1⟩ := hs 0 _ (getD_some b 0 (by omega))
  have hadb : ad.block < w.heap.size := by
    have := World.block_lt_of_cell? _ _ hc1
    simpa [Addr.add] using this
  have hspot : ad.spot = none := by
    have := World.cell?_spot hc1
    simpa [Addr.add] using this
  obtain ⟨bb, oo, ss⟩ := ad
  dsimp only at hspot hadb
  subst hspot
  have HAD : Hid (bb < w.heap.size) := hadb
  have d0 : W.cell? ⟨bb, oo, none⟩ = some (.int .u8 (b.getD 0 0).toNat) := src_at (hs.oldF HFW.out) rfl 0 (by omega)
  obtain ⟨dp, hcut, hcs⟩ := cutF (some ⟨bb, oo, none⟩) len cap 1 b hl hc (by omega)
  have hcut' : ∀ w, (Instr.slice 31 (.slice (some ⟨bb, oo, none⟩) len cap) (some (.int .i64 1)) none none).run Try.prog w = .ok (.slice dp (len - 1) (cap - 1)) w := hcut
  obtain ⟨l1, hl1⟩ : ∃ l1, len - 1 = l1 := ⟨_, rfl⟩
  obtain ⟨cp1, hcp1⟩ : ∃ cp1, cap - 1 = cp1 := ⟨_, rfl⟩
  obtain ⟨x, hx⟩ : ∃ x : UInt8, b.getD 0 0 = x := ⟨_, rfl⟩
  rw [hl1, hcp1] at hcut'
  rw [hl1, hx] at hov
  rw [hx] at d0
  rw [hx]
  have hxb := x.toNat_lt
  have hw8 : IntKind.i64.wrap (x.toNat : Int) = (x.toNat : Int) := by rw [IntKind.wrap_i64]; omega
  have z4 : W.frozen? ⟨w.heap.size, 4, none⟩ = false := frozen_of_heap A0.out
  have A1 : Hid ((W.setCell ⟨w.heap.size, 4, none⟩ (.int .i64 (x.toNat : Int))).heap[w.heap.size]? = some (.cells #[.int .i64 1, .int .i64 fl, .int .i64 st, .slice none 0 0, .int .i64 (x.toNat : Int), .int .u32 0, .int .i64 0, .int .i64 0, .int .i64 0, .bool false, .int .i64 0, .slice none 0 0] 36 (0, 0))) := block_set A0.out
  have F1 : Hid (Fr (fun k => k = w.heap.size) W (W.setCell ⟨w.heap.size, 4, none⟩ (.int .i64 (x.toNat : Int)))) := (Fr.refl _ _).setB _ _
  have hlen1 : l1 ≤ 16777215 := by omega
  have hlb : 5 ≤ l1 := by omega
  have hws : IntKind.i64.wrap ((l1 : Int) - 5) = (l1 : Int) - 5 := by rw [IntKind.wrap_i64]; omega
  clear hcut hcs hl1 hcp1 hx hadb hc1 hs hl hr1 hr2
  have hgt : (l1 : Int) - 5 < (x.toNat : Int) := by omega
  go_enter Try.func36, Try.ntmps36
  go_wp2_with (fail)
  rw [← hW]
  clear hW
  go_wp2_with first
    | (go_at_call 39; refine (K3 _).mono ?_; rintro e w' ⟨rfl, rfl⟩)
    | (go_at_call 40; refine (K4 _).mono ?_; rintro e w' ⟨rfl, rfl⟩)
    | (go_at_call 41; refine (K5 _).mono ?_; rintro e w' ⟨rfl, rfl⟩)
  refine wp_region_held_drew (S := fun w2 => w2.heap[w.heap.size]? = some (.cells #[.int .i64 1, .int .i64 fl, .int .i64 st, .slice none 0 0, .int .i64 (x.toNat : Int), .int .u32 0, .int .i64 0, .int .i64 0, .int .i64 0, .bool false, .int .i64 0, .slice none 0 0] 36 (0, 0))) (by kernel_rfl) A1.out (fun hHeld => ?_)
  refine wpAnyH_take (i := 0) (oi := _) (v := .agg #[.int .i64 1, .int .i64 fl, .int .i64 st, .slice none 0 0, .int .i64 (x.toNat : Int), .int .u32 0, .int .i64 0, .int .i64 0, .int .i64 0, .bool false, .int .i64 0, .slice none 0 0]) rfl (by kernel_rfl) (by kernel_rfl) (by kernel_rfl) (fun _ _ _ h => h) (Or.inl ⟨by kernel_rfl, fun w2 hw => by obtain ⟨c0, c1, c2, c3, c4, c5, c6, c7, c8, c9, c10, c11⟩ := cells12 hw; go_simp⟩) hHeld ?_
  simp only [Act.put, List.getElem_toArray, List.getElem_cons_zero, List.setIfInBounds_toArray, List.set_cons_zero, List.set_cons_succ]
  refine wpAnyH_ready (rs := [1]) (by kernel_rfl) (by simp) ?_
  refine AllReadyH.cons rfl (fun K hK => ?_) AllReadyH.nil
  go_simp
  refine (fault_in 1 _).mono ?_
  rintro e w3 ⟨rfl, hf3⟩
  have F3 : Hid (Fr (fun k => k = w.heap.size) W w3) := F1.out.trans (((Fr.refl _ _).drew.trans hf3).mono (fun _ _ e => e.elim))
  have A3 : Hid (w3.heap[w.heap.size]? = some (.cells #[.int .i64 1, .int .i64 fl, .int .i64 st, .slice none 0 0, .int .i64 (x.toNat : Int), .int .u32 0, .int .i64 0, .int .i64 0, .int .i64 0, .bool false, .int .i64 0, .slice none 0 0] 36 (0, 0))) := (((Fr.refl (fun _ => False) _).drew.trans hf3).block _ (lt_of_heap A1.out) id).trans A1.out
  refine hK.out _ _ A3.out (fun hHeld2 => ?_)
  clear hK K
  refine wpAnyH_ready (rs := [2]) (by kernel_rfl) (by simp) ?_
  refine AllReadyH.cons rfl (fun K hK => ?_) AllReadyH.nil
  refine stepR_storeB rfl rfl 36 (.tmp 4) (.tmp 69) rfl (w.heap.size + 1) #[.int .i64 0, .int .i64 0, .int .i64 0, .slice none 0 0, .int .i64 0, .int .u32 0, .int .i64 0, .int .i64 0, .int .i64 0, .bool false, .int .i64 0, .slice none 0 0] #[.int .i64 1, .int .i64 fl, .int .i64 st, .slice none 0 0, .int .i64 (x.toNat : Int), .int .u32 0, .int .i64 0, .int .i64 0, .int .i64 0, .bool false, .int .i64 0, .slice none 0 0] 36 rfl rfl (HRES.out _ F3.out).1 rfl (by kernel_rfl) (by simp [Value.oneCell']) ?_
  intro w4 H4 F4
  refine hK.out _ _ ((F4.out.block _ (lt_of_heap A3.out) (by omega)).trans A3.out) (fun hHeld3 => ?_)
  clear hK K
  refine wpAnyH_ready (rs := [3]) (by kernel_rfl) (by simp) ?_
  refine AllReadyH.cons rfl (fun K hK => ?_) AllReadyH.nil
  go_simp
  refine hK.out _ _ hHeld3 (fun _ => ?_)
  clear hK K
  refine wpAnyH_ready (rs := [4]) (by kernel_rfl) (by simp) ?_
  refine AllReadyH.cons rfl (fun K hK => ?_) AllReadyH.nil
  refine stepR_storeB rfl rfl 38 (.tmp 6) (.tmp 70) rfl (w.heap.size + 2) #[.bool false, .int .i64 0, .int .i64 0] #[.bool true, .int .i64 0, .int .i64 1] 38 rfl rfl ((F4.out.block _ (lt_of_heap (HRES.out _ F3.out).2) (by omega)).trans (HRES.out _ F3.out).2) rfl (by kernel_rfl) (by simp [Value.oneCell']) ?_
  intro w5 H5 F5
  refine hK.out _ _ ((F5.out.block _ (lt_of_heap hHeld3) (by omega)).trans hHeld3) (fun _ => ?_)
  clear hK K
  refine wpAnyH_done (by kernel_rfl) ?_ _
  go_wp2_with (fail)
  obtain ⟨r0, r1, r2, r3, r4, r5, r6, r7, r8, r9, r10, r11⟩ := cells12 ((F5.out.block _ (lt_of_heap H4.out) (by omega)).trans H4.out)
  obtain ⟨s0, s1, s2⟩ := cells3 H5.out
  refine bodyPost_ret (v := .tuple #[.agg #[.int .i64 1, .int .i64 fl, .int .i64 st, .slice none 0 0, .int .i64 (x.toNat : Int), .int .u32 0, .int .i64 0, .int .i64 0, .int .i64 0, .bool false, .int .i64 0, .slice none 0 0], .slice none 0 0, .agg #[.bool true, .int .i64 0, .int .i64 1]]) (by simp [results, Try.results36, go_sem, r0, r1, r2, r3, r4, r5, r6, r7, r8, r9, r10, r11, s0, s1, s2]) rfl ?_
  refine ⟨none, 0, 0, rfl, ?_, fun h => by cases h⟩
  exact ((((HFW.out.mono (T := fun k => w.heap.size ≤ k) (fun _ _ e => e.elim)).trans (F3.out.mono (fun k _ e => by omega))).trans (F4.out.mono (fun k _ e => by omega))).trans (F5.out.mono (fun k _ e => by omega))).mono (fun k hk e => by omega)

theorem pt_5p_s (fl st : Int) (a : Option Addr) (len cap : Nat) (b : List UInt8) (w : World) (h0 : 0 ≤ fl) (h1 : fl ≤ 255) (hs : SrcAt w a b) (hl : b.length = len) (hc : len ≤ cap) (hm : len ≤ 16777215) (h8 : has fl 8 = true) (hsh : len < 5) :
    Calls Try.prog 36 #[.agg #[.int .i64 5, .int .i64 fl, .int .i64 st, .slice none 0 0, .int .i64 0, .int .u32 0, .int .i64 0, .int .i64 0, .int .i64 0, .bool false, .int .i64 0, .slice none 0 0], .slice a len cap] w fun e w' => PtAs w 5 fl st 0 6 ([]) e w' := by
  obtain ⟨W, hW⟩ : ∃ W, W = ((w.alloc (.cells #[.int .i64 5, .int .i64 fl, .int .i64 st, .slice none 0 0, .int .i64 0, .int .u32 0, .int .i64 0, .int .i64 0, .int .i64 0, .bool false, .int .i64 0, .slice none 0 0] 36)).alloc (.cells #[.int .i64 0, .int .i64 0, .int .i64 0, .slice none 0 0, .int .i64 0, .int .u32 0, .int .i64 0, .int .i64 0, .int .i64 0, .bool false, .int .i64 0, .slice none 0 0] 36)).alloc (.cells #[.bool false, .int .i64 0, .int .i64 0] 38) := ⟨_, rfl⟩
  have HFW : Hid (Fr (fun _ => False) w W) := by rw [hW]; exact (((Fr.refl _ _).alloc _).alloc _).alloc _
  have A0 : Hid (W.heap[w.heap.size]? = some (.cells #[.int .i64 5, .int .i64 fl, .int .i64 st, .slice none 0 0, .int .i64 0, .int .u32 0, .int .i64 0, .int .i64 0, .int .i64 0, .bool false, .int .i64 0, .slice none 0 0] 36 (0, 0))) := by rw [hW]; exact past_at _ (past_at _ (heap_alloc_new w _))
  have hr1 : W.heap[w.heap.size + 1]? = some (.cells #[.int .i64 0, .int .i64 0, .int .i64 0, .slice none 0 0, .int .i64 0, .int .u32 0, .int .i64 0, .int .i64 0, .int .i64 0, .bool false, .int .i64 0, .slice none 0 0] 36 (0, 0)) := by rw [hW]; exact past_at _ (last_at _ (by simp))
  have hr2 : W.heap[w.heap.size + 2]? = some (.cells #[.bool false, .int .i64 0, .int .i64 0] 38 (0, 0)) := by rw [hW]; exact last_at _ (by simp)
  have HRES : Hid (∀ w', Fr (fun k => k = w.heap.size) W w' → w'.heap[w.heap.size + 1]? = some (.cells #[.int .i64 0, .int .i64 0, .int .i64 0, .slice none 0 0, .int .i64 0, .int .u32 0, .int .i64 0, .int .i64 0, .int .i64 0, .bool false, .int .i64 0, .slice none 0 0] 36 (0, 0)) ∧ w'.heap[w.heap.size + 2]? = some (.cells #[.bool false, .int .i64 0, .int .i64 0] 38 (0, 0))) := fun w' hf => ⟨(hf.block _ (lt_of_heap hr1) (by omega)).trans hr1, (hf.block _ (lt_of_heap hr2) (by omega)).trans hr2⟩
  have K3 : ∀ w, Calls Try.prog 39 #[.int .i64 5] w fun e w' => e = .returned (.bool true) ∧ w = w' := fun w => by have h := rpadded_in 5 w; rwa [show canP 5 = true by decide] at h
  have K4 : ∀ w, Calls Try.prog 40 #[.int .i64 fl, .int .i64 8] w fun e w' => e = .returned (.bool true) ∧ w = w' := fun w => by have h := has_in fl 8 w (by omega) h0 h1; rw [← h8]; exact h
  have HS : Hid (SrcAt w a b) := hs
  have HL : Hid (b.length = len) := hl
  obtain ⟨c0, c1, c2, c3, c4, c5, c6, c7, c8, c9, c10, c11⟩ := cells12 A0.out
  have A1 : Hid (W.heap[w.heap.size]? = some (.cells #[.int .i64 5, .int .i64 fl, .int .i64 st, .slice none 0 0, .int .i64 0, .int .u32 0, .int .i64 0, .int .i64 0, .int .i64 0, .bool false, .int .i64 0, .slice none 0 0] 36 (0, 0))) := A0.out
  have F1 : Hid (Fr (fun k => k = w.heap.size) W W) := Fr.refl _ _
  clear hs hl hr1 hr2
  go_enter Try.func36, Try.ntmps36
  go_wp2_with (fail)
  rw [← hW]
  clear hW
  go_wp2_with first
    | (go_at_call 39; refine (K3 _).mono ?_; rintro e w' ⟨rfl, rfl⟩)
    | (go_at_call 40; refine (K4 _).mono ?_; rintro e w' ⟨rfl, rfl⟩)
  refine wp_region_held_drew (S := fun w2 => w2.heap[w.heap.size]? = some (.cells #[.int .i64 5, .int .i64 fl, .int .i64 st, .slice none 0 0, .int .i64 0, .int .u32 0, .int .i64 0, .int .i64 0, .int .i64 0, .bool false, .int .i64 0, .slice none 0 0] 36 (0, 0))) (by kernel_rfl) A1.out (fun hHeld => ?_)
  refine wpAnyH_take (i := 0) (oi := _) (v := .agg #[.int .i64 5, .int .i64 fl, .int .i64 st, .slice none 0 0, .int .i64 0, .int .u32 0, .int .i64 0, .int .i64 0, .int .i64 0, .bool false, .int .i64 0, .slice none 0 0]) rfl (by kernel_rfl) (by kernel_rfl) (by kernel_rfl) (fun _ _ _ h => h) (Or.inl ⟨by kernel_rfl, fun w2 hw => by obtain ⟨c0, c1, c2, c3, c4, c5, c6, c7, c8, c9, c10, c11⟩ := cells12 hw; go_simp⟩) hHeld ?_
  simp only [Act.put, List.getElem_toArray, List.getElem_cons_zero, List.setIfInBounds_toArray, List.set_cons_zero, List.set_cons_succ]
  refine wpAnyH_ready (rs := [1]) (by kernel_rfl) (by simp) ?_
  refine AllReadyH.cons rfl (fun K hK => ?_) AllReadyH.nil
  go_simp
  refine (fault_in 6 _).mono ?_
  rintro e w3 ⟨rfl, hf3⟩
  have F3 : Hid (Fr (fun k => k = w.heap.size) W w3) := F1.out.trans (((Fr.refl _ _).drew.trans hf3).mono (fun _ _ e => e.elim))
  have A3 : Hid (w3.heap[w.heap.size]? = some (.cells #[.int .i64 5, .int .i64 fl, .int .i64 st, .slice none 0 0, .int .i64 0, .int .u32 0, .int .i64 0, .int .i64 0, .int .i64 0, .bool false, .int .i64 0, .slice none 0 0] 36 (0, 0))) := (((Fr.refl (fun _ => False) _).drew.trans hf3).block _ (lt_of_heap A1.out) id).trans A1.out
  refine hK.out _ _ A3.out (fun hHeld2 => ?_)
  clear hK K
  refine wpAnyH_ready (rs := [2]) (by kernel_rfl) (by simp) ?_
  refine AllReadyH.cons rfl (fun K hK => ?_) AllReadyH.nil
  refine stepR_storeB rfl rfl 36 (.tmp 4) (.tmp 39) rfl (w.heap.size + 1) #[.int .i64 0, .int .i64 0, .int .i64 0, .slice none 0 0, .int .i64 0, .int .u32 0, .int .i64 0, .int .i64 0, .int .i64 0, .bool false, .int .i64 0, .slice none 0 0] #[.int .i64 5, .int .i64 fl, .int .i64 st, .slice none 0 0, .int .i64 0, .int .u32 0, .int .i64 0, .int .i64 0, .int .i64 0, .bool false, .int .i64 0, .slice none 0 0] 36 rfl rfl (HRES.out _ F3.out).1 rfl (by kernel_rfl) (by simp [Value.oneCell']) ?_
  intro w4 H4 F4
  refine hK.out _ _ ((F4.out.block _ (lt_of_heap A3.out) (by omega)).trans A3.out) (fun hHeld3 => ?_)
  clear hK K
  refine wpAnyH_ready (rs := [3]) (by kernel_rfl) (by simp) ?_
  refine AllReadyH.cons rfl (fun K hK => ?_) AllReadyH.nil
  go_simp
  refine hK.out _ _ hHeld3 (fun _ => ?_)
  clear hK K
  refine wpAnyH_ready (rs := [4]) (by kernel_rfl) (by simp) ?_
  refine AllReadyH.cons rfl (fun K hK => ?_) AllReadyH.nil
  refine stepR_storeB rfl rfl 38 (.tmp 6) (.tmp 40) rfl (w.heap.size + 2) #[.bool false, .int .i64 0, .int .i64 0] #[.bool true, .int .i64 0, .int .i64 6] 38 rfl rfl ((F4.out.block _ (lt_of_heap (HRES.out _ F3.out).2) (by omega)).trans (HRES.out _ F3.out).2) rfl (by kernel_rfl) (by simp [Value.oneCell']) ?_
  intro w5 H5 F5
  refine hK.out _ _ ((F5.out.block _ (lt_of_heap hHeld3) (by omega)).trans hHeld3) (fun _ => ?_)
  clear hK K
  refine wpAnyH_done (by kernel_rfl) ?_ _
  go_wp2_with (fail)
  obtain ⟨r0, r1, r2, r3, r4, r5, r6, r7, r8, r9, r10, r11⟩ := cells12 ((F5.out.block _ (lt_of_heap H4.out) (by omega)).trans H4.out)
  obtain ⟨s0, s1, s2⟩ := cells3 H5.out
  refine bodyPost_ret (v := .tuple #[.agg #[.int .i64 5, .int .i64 fl, .int .i64 st, .slice none 0 0, .int .i64 0, .int .u32 0, .int .i64 0, .int .i64 0, .int .i64 0, .bool false, .int .i64 0, .slice none 0 0], .slice none 0 0, .agg #[.bool true, .int .i64 0, .int .i64 6]]) (by simp [results, Try.results36, go_sem, r0, r1, r2, r3, r4, r5, r6, r7, r8, r9, r10, r11, s0, s1, s2]) rfl ?_
  refine ⟨none, 0, 0, rfl, ?_, fun h => by cases h⟩
  exact ((((HFW.out.mono (T := fun k => w.heap.size ≤ k) (fun _ _ e => e.elim)).trans (F3.out.mono (fun k _ e => by omega))).trans (F4.out.mono (fun k _ e => by omega))).trans (F5.out.mono (fun k _ e => by omega))).mono (fun k hk e => by omega)

theorem pt_5p_o (fl st : Int) (a : Option Addr) (len cap : Nat) (b : List UInt8) (w : World) (h0 : 0 ≤ fl) (h1 : fl ≤ 255) (hs : SrcAt w a b) (hl : b.length = len) (hc : len ≤ cap) (hm : len ≤ 16777215) (h8 : has fl 8 = true) (hsh : 5 ≤ len) (hov : len - 1 - 4 < (b.getD 0 0).toNat) :
    Calls Try.prog 36 #[.agg #[.int .i64 5, .int .i64 fl, .int .i64 st, .slice none 0 0, .int .i64 0, .int .u32 0, .int .i64 0, .int .i64 0, .int .i64 0, .bool false, .int .i64 0, .slice none 0 0], .slice a len cap] w fun e w' => PtAs w 5 fl st (b.getD 0 0).toNat 1 ([]) e w' := by
  obtain ⟨W, hW⟩ : ∃ W, W = ((w.alloc (.cells #[.int .i64 5, .int .i64 fl, .int .i64 st, .slice none 0 0, .int .i64 0, .int .u32 0, .int .i64 0, .int .i64 0, .int .i64 0, .bool false, .int .i64 0, .slice none 0 0] 36)).alloc (.cells #[.int .i64 0, .int .i64 0, .int .i64 0, .slice none 0 0, .int .i64 0, .int .u32 0, .int .i64 0, .int .i64 0, .int .i64 0, .bool false, .int .i64 0, .slice none 0 0] 36)).alloc (.cells #[.bool false, .int .i64 0, .int .i64 0] 38) := ⟨_, rfl⟩
  have HFW : Hid (Fr (fun _ => False) w W) := by rw [hW]; exact (((Fr.refl _ _).alloc _).alloc _).alloc _
  have A0 : Hid (W.heap[w.heap.size]? = some (.cells #[.int .i64 5, .int .i64 fl, .int .i64 st, .slice none 0 0, .int .i64 0, .int .u32 0, .int .i64 0, .int .i64 0, .int .i64 0, .bool false, .int .i64 0, .slice none 0 0] 36 (0, 0))) := by rw [hW]; exact past_at _ (past_at _ (heap_alloc_new w _))
  have hr1 : W.heap[w.heap.size + 1]? = some (.cells #[.int .i64 0, .int .i64 0, .int .i64 0, .slice none 0 0, .int .i64 0, .int .u32 0, .int .i64 0, .int .i64 0, .int .i64 0, .bool false, .int .i64 0, .slice none 0 0] 36 (0, 0)) := by rw [hW]; exact past_at _ (last_at _ (by simp))
  have hr2 : W.heap[w.heap.size + 2]? = some (.cells #[.bool false, .int .i64 0, .int .i64 0] 38 (0, 0)) := by rw [hW]; exact last_at _ (by simp)
  have HRES : Hid (∀ w', Fr (fun k => k = w.heap.size) W w' → w'.heap[w.heap.size + 1]? = some (.cells #[.int .i64 0, .int .i64 0, .int .i64 0, .slice none 0 0, .int .i64 0, .int .u32 0, .int .i64 0, .int .i64 0, .int .i64 0, .bool false, .int .i64 0, .slice none 0 0] 36 (0, 0)) ∧ w'.heap[w.heap.size + 2]? = some (.cells #[.bool false, .int .i64 0, .int .i64 0] 38 (0, 0))) := fun w' hf => ⟨(hf.block _ (lt_of_heap hr1) (by omega)).trans hr1, (hf.block _ (lt_of_heap hr2) (by omega)).trans hr2⟩
  have K3 : ∀ w, Calls Try.prog 39 #[.int .i64 5] w fun e w' => e = .returned (.bool true) ∧ w = w' := fun w => by have h := rpadded_in 5 w; rwa [show canP 5 = true by decide] at h
  have K4 : ∀ w, Calls Try.prog 40 #[.int .i64 fl, .int .i64 8] w fun e w' => e = .returned (.bool true) ∧ w = w' := fun w => by have h := has_in fl 8 w (by omega) h0 h1; rw [← h8]; exact h
  have HS : Hid (SrcAt w a b) := hs
  have HL : Hid (b.length = len) := hl
  obtain ⟨c0, c1, c2, c3, c4, c5, c6, c7, c8, c9, c10, c11⟩ := cells12 A0.out
  obtain ⟨ad, rfl, hc1⟩ := hs 0 _ (getD_some b 0 (by omega))
  have hadb : ad.block < w.heap.size := by
    have := World.block_lt_of_cell? _ _ hc1
    simpa [Addr.add] using this
  have hspot : ad.spot = none := by
    have := World.cell?_spot hc1
    simpa [Addr.add] using this
  obtain ⟨bb, oo, ss⟩ := ad
  dsimp only at hspot hadb
  subst hspot
  have HAD : Hid (bb < w.heap.size) := hadb
  have d0 : W.cell? ⟨bb, oo, none⟩ = some (.int .u8 (b.getD 0 0).toNat) := src_at (hs.oldF HFW.out) rfl 0 (by omega)
  obtain ⟨dp, hcut, hcs⟩ := cutF (some ⟨bb, oo, none⟩) len cap 1 b hl hc (by omega)
  have hcut' : ∀ w, (Instr.slice 31 (.slice (some ⟨bb, oo, none⟩) len cap) (some (.int .i64 1)) none none).run Try.prog w = .ok (.slice dp (len - 1) (cap - 1)) w := hcut
  obtain ⟨l1, hl1⟩ : ∃ l1, len - 1 = l1 := ⟨_, rfl⟩
  obtain ⟨cp1, hcp1⟩ : ∃ cp1, cap - 1 = cp1 := ⟨_, rfl⟩
  obtain ⟨x, hx⟩ : ∃ x : UInt8, b.getD 0 0 = x := ⟨_, rfl⟩
  rw [hl1, hcp1] at hcut'
  rw [hl1, hx] at hov
  rw [hx] at d0
  rw [hx]
  have hxb := x.toNat_lt
  have hw8 : IntKind.i64.wrap (x.toNat : Int) = (x.toNat : Int) := by rw [IntKind.wrap_i64]; omega
  have z4 : W.frozen? ⟨w.heap.size, 4, none⟩ = false := frozen_of_heap A0.out
  have A1 : Hid ((W.setCell ⟨w.heap.size, 4, none⟩ (.int .i64 (x.toNat : Int))).heap[w.heap.size]? = some (.cells #[.int .i64 5, .int .i64 fl, .int .i64 st, .slice none 0 0, .int .i64 (x.toNat : Int), .int .u32 0, .int .i64 0, .int .i64 0, .int .i64 0, .bool false, .int .i64 0, .slice none 0 0] 36 (0, 0))) := block_set A0.out
  have F1 : Hid (Fr (fun k => k = w.heap.size) W (W.setCell ⟨w.heap.size, 4, none⟩ (.int .i64 (x.toNat : Int)))) := (Fr.refl _ _).setB _ _
  have hlen1 : l1 ≤ 16777215 := by omega
  have hlb : 4 ≤ l1 := by omega
  have hws : IntKind.i64.wrap ((l1 : Int) - 4) = (l1 : Int) - 4 := by rw [IntKind.wrap_i64]; omega
  clear hcut hcs hl1 hcp1 hx hadb hc1 hs hl hr1 hr2
  have hgt : (l1 : Int) - 4 < (x.toNat : Int) := by omega
  go_enter Try.func36, Try.ntmps36
  go_wp2_with (fail)
  rw [← hW]
  clear hW
  go_wp2_with first
    | (go_at_call 39; refine (K3 _).mono ?_; rintro e w' ⟨rfl, rfl⟩)
    | (go_at_call 40; refine (K4 _).mono ?_; rintro e w' ⟨rfl, rfl⟩)
  refine wp_region_held_drew (S := fun w2 => w2.heap[w.heap.size]? = some (.cells #[.int .i64 5, .int .i64 fl, .int .i64 st, .slice none 0 0, .int .i64 (x.toNat : Int), .int .u32 0, .int .i64 0, .int .i64 0, .int .i64 0, .bool false, .int .i64 0, .slice none 0 0] 36 (0, 0))) (by kernel_rfl) A1.out (fun hHeld => ?_)
  refine wpAnyH_take (i := 0) (oi := _) (v := .agg #[.int .i64 5, .int .i64 fl, .int .i64 st, .slice none 0 0, .int .i64 (x.toNat : Int), .int .u32 0, .int .i64 0, .int .i64 0, .int .i64 0, .bool false, .int .i64 0, .slice none 0 0]) rfl (by kernel_rfl) (by kernel_rfl) (by kernel_rfl) (fun _ _ _ h => h) (Or.inl ⟨by kernel_rfl, fun w2 hw => by obtain ⟨c0, c1, c2, c3, c4, c5, c6, c7, c8, c9, c10, c11⟩ := cells12 hw; go_simp⟩) hHeld ?_
  simp only [Act.put, List.getElem_toArray, List.getElem_cons_zero, List.setIfInBounds_toArray, List.set_cons_zero, List.set_cons_succ]
  refine wpAnyH_ready (rs := [1]) (by kernel_rfl) (by simp) ?_
  refine AllReadyH.cons rfl (fun K hK => ?_) AllReadyH.nil
  go_simp
  refine (fault_in 1 _).mono ?_
  rintro e w3 ⟨rfl, hf3⟩
  have F3 : Hid (Fr (fun k => k = w.heap.size) W w3) := F1.out.trans (((Fr.refl _ _).drew.trans hf3).mono (fun _ _ e => e.elim))
  have A3 : Hid (w3.heap[w.heap.size]? = some (.cells #[.int .i64 5, .int .i64 fl, .int .i64 st, .slice none 0 0, .int .i64 (x.toNat : Int), .int .u32 0, .int .i64 0, .int .i64 0, .int .i64 0, .bool false, .int .i64 0, .slice none 0 0] 36 (0, 0))) := (((Fr.refl (fun _ => False) _).drew.trans hf3).block _ (lt_of_heap A1.out) id).trans A1.out
  refine hK.out _ _ A3.out (fun hHeld2 => ?_)
  clear hK K
  refine wpAnyH_ready (rs := [2]) (by kernel_rfl) (by simp) ?_
  refine AllReadyH.cons rfl (fun K hK => ?_) AllReadyH.nil
  refine stepR_storeB rfl rfl 36 (.tmp 4) (.tmp 69) rfl (w.heap.size + 1) #[.int .i64 0, .int .i64 0, .int .i64 0, .slice none 0 0, .int .i64 0, .int .u32 0, .int .i64 0, .int .i64 0, .int .i64 0, .bool false, .int .i64 0, .slice none 0 0] #[.int .i64 5, .int .i64 fl, .int .i64 st, .slice none 0 0, .int .i64 (x.toNat : Int), .int .u32 0, .int .i64 0, .int .i64 0, .int .i64 0, .bool false, .int .i64 0, .slice none 0 0] 36 rfl rfl (HRES.out _ F3.out).1 rfl (by kernel_rfl) (by simp [Value.oneCell']) ?_
  intro w4 H4 F4
  refine hK.out _ _ ((F4.out.block _ (lt_of_heap A3.out) (by omega)).trans A3.out) (fun hHeld3 => ?_)
  clear hK K
  refine wpAnyH_ready (rs := [3]) (by kernel_rfl) (by simp) ?_
  refine AllReadyH.cons rfl (fun K hK => ?_) AllReadyH.nil
  go_simp
  refine hK.out _ _ hHeld3 (fun _ => ?_)
  clear hK K
  refine wpAnyH_ready (rs := [4]) (by kernel_rfl) (by simp) ?_
  refine AllReadyH.cons rfl (fun K hK => ?_) AllReadyH.nil
  refine stepR_storeB rfl rfl 38 (.tmp 6) (.tmp 70) rfl (w.heap.size + 2) #[.bool false, .int .i64 0, .int .i64 0] #[.bool true, .int .i64 0, .int .i64 1] 38 rfl rfl ((F4.out.block _ (lt_of_heap (HRES.out _ F3.out).2) (by omega)).trans (HRES.out _ F3.out).2) rfl (by kernel_rfl) (by simp [Value.oneCell']) ?_
  intro w5 H5 F5
  refine hK.out _ _ ((F5.out.block _ (lt_of_heap hHeld3) (by omega)).trans hHeld3) (fun _ => ?_)
  clear hK K
  refine wpAnyH_done (by kernel_rfl) ?_ _
  go_wp2_with (fail)
  obtain ⟨r0, r1, r2, r3, r4, r5, r6, r7, r8, r9, r10, r11⟩ := cells12 ((F5.out.block _ (lt_of_heap H4.out) (by omega)).trans H4.out)
  obtain ⟨s0, s1, s2⟩ := cells3 H5.out
  refine bodyPost_ret (v := .tuple #[.agg #[.int .i64 5, .int .i64 fl, .int .i64 st, .slice none 0 0, .int .i64 (x.toNat : Int), .int .u32 0, .int .i64 0, .int .i64 0, .int .i64 0, .bool false, .int .i64 0, .slice none 0 0], .slice none 0 0, .agg #[.bool true, .int .i64 0, .int .i64 1]]) (by simp [results, Try.results36, go_sem, r0, r1, r2, r3, r4, r5, r6, r7, r8, r9, r10, r11, s0, s1, s2]) rfl ?_
  refine ⟨none, 0, 0, rfl, ?_, fun h => by cases h⟩
  exact ((((HFW.out.mono (T := fun k => w.heap.size ≤ k) (fun _ _ e => e.elim)).trans (F3.out.mono (fun k _ e => by omega))).trans (F4.out.mono (fun k _ e => by omega))).trans (F5.out.mono (fun k _ e => by omega))).mono (fun k hk e => by omega)

end Go.Proofs.Ytikaefjhmgcidaa
