/- The frame at the beginning of bytes, by the document: heads. -/
import Derived.Test.YtikaefjhmgcidaaZMRn
import Derived.Deep.Cut
namespace Go.Proofs.Ytikaefjhmgcidaa
open Go.RowKit
set_option linter.unusedVariables false
set_option maxRecDepth 100000
set_option maxHeartbeats 40000000

theorem rp_a (a : Option Addr) (len cap : Nat) (B : List UInt8) (most : Int) (w : World) (hs : SrcAt w a B) (hl : B.length = len) (hc : len ≤ cap) (hm : len ≤ 9223372036854775807) (hmr : -9223372036854775808 ≤ most ∧ most ≤ 9223372036854775807) (hneg : most < 0) :
    Calls Try.prog 24 #[.slice a len cap, .int .i64 most] w fun e w' => ParsedAs w (zeroF, 0, ⟨false, 0, 0⟩, 1) e w' := by
  obtain ⟨W, hW⟩ : ∃ W, W = (w.alloc (.cells #[.int .i64 0, .int .i64 0, .int .i64 0, .slice none 0 0, .int .i64 0, .int .u32 0, .int .i64 0, .int .i64 0, .int .i64 0, .bool false, .int .i64 0, .slice none 0 0] 36)).alloc (.cells #[.bool false, .int .i64 0, .int .i64 0] 38) := ⟨_, rfl⟩
  have HFW : Hid (Fr (fun _ => False) w W) := by rw [hW]; exact ((Fr.refl _ _).alloc _).alloc _
  have hr1 : W.heap[w.heap.size]? = some (.cells #[.int .i64 0, .int .i64 0, .int .i64 0, .slice none 0 0, .int .i64 0, .int .u32 0, .int .i64 0, .int .i64 0, .int .i64 0, .bool false, .int .i64 0, .slice none 0 0] 36 (0, 0)) := by rw [hW]; exact past_at _ (heap_alloc_new w _)
  have hr2 : W.heap[w.heap.size + 1]? = some (.cells #[.bool false, .int .i64 0, .int .i64 0] 38 (0, 0)) := by rw [hW]; exact last_at _ (by simp)
  have HRES : Hid (∀ w', Fr (fun k => W.heap.size ≤ k) W w' → w'.heap[w.heap.size]? = some (.cells #[.int .i64 0, .int .i64 0, .int .i64 0, .slice none 0 0, .int .i64 0, .int .u32 0, .int .i64 0, .int .i64 0, .int .i64 0, .bool false, .int .i64 0, .slice none 0 0] 36 (0, 0)) ∧ w'.heap[w.heap.size + 1]? = some (.cells #[.bool false, .int .i64 0, .int .i64 0] 38 (0, 0))) := fun w' hf => ⟨(hf.block _ (lt_of_heap hr1) (by have := lt_of_heap hr1; omega)).trans hr1, (hf.block _ (lt_of_heap hr2) (by have := lt_of_heap hr2; omega)).trans hr2⟩
  have HB2 : Hid (w.heap.size + 2 ≤ W.heap.size) := by show _ ≤ _; have := lt_of_heap hr2; omega
  have HS : Hid (∀ w', Fr (fun k => W.heap.size ≤ k) W w' → SrcAt w' a B) := fun w' hf => src_ge (hs.oldF HFW.out) hf
  have HL : Hid (B.length = len) := hl
  have FW : Hid (Fr (fun k => W.heap.size ≤ k) W W) := Fr.refl _ _
  clear hr1 hr2
  clear hs hl
  go_enter Try.func24, Try.ntmps24
  go_upto_region 1 with (fail)
  rw [← hW]
  clear hW
  go_wp2_with first
    | (refine wpList_storeB rfl 36 (.tmp 4) (.tmp 18) rfl w.heap.size #[.int .i64 0, .int .i64 0, .int .i64 0, .slice none 0 0, .int .i64 0, .int .u32 0, .int .i64 0, .int .i64 0, .int .i64 0, .bool false, .int .i64 0, .slice none 0 0] #[.int .i64 0, .int .i64 0, .int .i64 0, .slice none 0 0, .int .i64 0, .int .u32 0, .int .i64 0, .int .i64 0, .int .i64 0, .bool false, .int .i64 0, .slice none 0 0] 36 rfl rfl (HRES.out _ FW.out).1 rfl (by kernel_rfl) (by simp [Value.oneCell']) ?_; intro y4 H4 F4)
    | (refine wpList_storeB rfl 38 (.tmp 6) (.tmp 19) rfl (w.heap.size + 1) #[.bool false, .int .i64 0, .int .i64 0] #[.bool false, .int .i64 0, .int .i64 0] 38 rfl rfl ((F4.out.block _ (lt_of_heap (HRES.out _ FW.out).2) (by omega)).trans (HRES.out _ FW.out).2) rfl (by kernel_rfl) (by simp [Value.oneCell']) ?_; intro y5 H5 F5)
  obtain ⟨r0, r1, r2, r3, r4, r5, r6, r7, r8, r9, r10, r11⟩ := cells12 ((F5.out.block _ (lt_of_heap H4.out) (by omega)).trans H4.out)
  obtain ⟨s0, s1, s2⟩ := cells3 H5.out
  have FALL : Fr (fun k => k = w.heap.size ∨ k = w.heap.size + 1) _ y5 := (F4.out.mono (fun _ _ e => .inl e)).trans (F5.out.mono (fun _ _ e => .inr e))
  refine bodyPost_ret (v := .tuple #[.agg #[.int .i64 0, .int .i64 0, .int .i64 0, .slice none 0 0, .int .i64 0, .int .u32 0, .int .i64 0, .int .i64 0, .int .i64 0, .bool false, .int .i64 0, .slice none 0 0], .int .i64 0, .agg #[.bool false, .int .i64 0, .int .i64 0], .int .i64 1]) (by simp [results, Try.results24, go_sem, r0, r1, r2, r3, r4, r5, r6, r7, r8, r9, r10, r11, s0, s1, s2]) rfl ?_
  have FEND : Fr (fun _ => False) w y5 := ((((HFW.out.mono (T := fun k => w.heap.size ≤ k) (fun _ _ e => e.elim)).trans (FW.out.mono (fun k _ e => by have := HB2.out; omega))).trans (FALL.mono (fun k _ e => by omega)))).mono (fun k hk e => by omega)
  exact ⟨none, 0, none, 0, rfl, SrcAt.nil _ _, SetsAt.nil _, FEND⟩

theorem rp_b (a : Option Addr) (len cap : Nat) (B : List UInt8) (most : Int) (w : World) (hs : SrcAt w a B) (hl : B.length = len) (hc : len ≤ cap) (hm : len ≤ 9223372036854775807) (hmr : -9223372036854775808 ≤ most ∧ most ≤ 9223372036854775807) (hm0 : 0 ≤ most) (h9 : len < 9) :
    Calls Try.prog 24 #[.slice a len cap, .int .i64 most] w fun e w' => ParsedAs w (zeroF, 0, ⟨false, 0, 0⟩, 3) e w' := by
  obtain ⟨W, hW⟩ : ∃ W, W = (w.alloc (.cells #[.int .i64 0, .int .i64 0, .int .i64 0, .slice none 0 0, .int .i64 0, .int .u32 0, .int .i64 0, .int .i64 0, .int .i64 0, .bool false, .int .i64 0, .slice none 0 0] 36)).alloc (.cells #[.bool false, .int .i64 0, .int .i64 0] 38) := ⟨_, rfl⟩
  have HFW : Hid (Fr (fun _ => False) w W) := by rw [hW]; exact ((Fr.refl _ _).alloc _).alloc _
  have hr1 : W.heap[w.heap.size]? = some (.cells #[.int .i64 0, .int .i64 0, .int .i64 0, .slice none 0 0, .int .i64 0, .int .u32 0, .int .i64 0, .int .i64 0, .int .i64 0, .bool false, .int .i64 0, .slice none 0 0] 36 (0, 0)) := by rw [hW]; exact past_at _ (heap_alloc_new w _)
  have hr2 : W.heap[w.heap.size + 1]? = some (.cells #[.bool false, .int .i64 0, .int .i64 0] 38 (0, 0)) := by rw [hW]; exact last_at _ (by simp)
  have HRES : Hid (∀ w', Fr (fun k => W.heap.size ≤ k) W w' → w'.heap[w.heap.size]? = some (.cells #[.int .i64 0, .int .i64 0, .int .i64 0, .slice none 0 0, .int .i64 0, .int .u32 0, .int .i64 0, .int .i64 0, .int .i64 0, .bool false, .int .i64 0, .slice none 0 0] 36 (0, 0)) ∧ w'.heap[w.heap.size + 1]? = some (.cells #[.bool false, .int .i64 0, .int .i64 0] 38 (0, 0))) := fun w' hf => ⟨(hf.block _ (lt_of_heap hr1) (by have := lt_of_heap hr1; omega)).trans hr1, (hf.block _ (lt_of_heap hr2) (by have := lt_of_heap hr2; omega)).trans hr2⟩
  have HB2 : Hid (w.heap.size + 2 ≤ W.heap.size) := by show _ ≤ _; have := lt_of_heap hr2; omega
  have HS : Hid (∀ w', Fr (fun k => W.heap.size ≤ k) W w' → SrcAt w' a B) := fun w' hf => src_ge (hs.oldF HFW.out) hf
  have HL : Hid (B.length = len) := hl
  have FW : Hid (Fr (fun k => W.heap.size ≤ k) W W) := Fr.refl _ _
  clear hr1 hr2
  have KH : Hid (Calls Try.prog 32 #[.slice a len cap] W fun e w2 => e = .returned (.tuple #[.int .i64 0, .int .i64 0, .int .i64 0, .int .i64 0, .int .i64 3]) ∧ Fr (fun _ => False) W w2) := by
    have h := rHead_in a len cap W B (HS.out W FW.out) hl hm
    have e : headO B = (0, 0, 0, 0, 3) := by rw [headO, if_pos (by omega)]
    rw [e] at h
    exact h
  have hmn : decide (most < 0) = false := by simp; omega
  clear hs hl
  go_enter Try.func24, Try.ntmps24
  go_upto_region 1 with (fail)
  rw [← hW]
  clear hW
  go_wp2_with (fail)
  refine KH.out.mono ?_
  rintro e w1 ⟨rfl, hf1⟩
  have F1 : Hid (Fr (fun k => W.heap.size ≤ k) W w1) := hf1.mono (fun _ _ e => e.elim)
  clear hf1
  go_wp2_with first
    | (refine wpList_storeB rfl 36 (.tmp 4) (.tmp 30) rfl w.heap.size #[.int .i64 0, .int .i64 0, .int .i64 0, .slice none 0 0, .int .i64 0, .int .u32 0, .int .i64 0, .int .i64 0, .int .i64 0, .bool false, .int .i64 0, .slice none 0 0] #[.int .i64 0, .int .i64 0, .int .i64 0, .slice none 0 0, .int .i64 0, .int .u32 0, .int .i64 0, .int .i64 0, .int .i64 0, .bool false, .int .i64 0, .slice none 0 0] 36 rfl rfl (HRES.out _ F1.out).1 rfl (by kernel_rfl) (by simp [Value.oneCell']) ?_; intro y4 H4 F4)
    | (refine wpList_storeB rfl 38 (.tmp 6) (.tmp 31) rfl (w.heap.size + 1) #[.bool false, .int .i64 0, .int .i64 0] #[.bool false, .int .i64 0, .int .i64 0] 38 rfl rfl ((F4.out.block _ (lt_of_heap (HRES.out _ F1.out).2) (by omega)).trans (HRES.out _ F1.out).2) rfl (by kernel_rfl) (by simp [Value.oneCell']) ?_; intro y5 H5 F5)
  obtain ⟨r0, r1, r2, r3, r4, r5, r6, r7, r8, r9, r10, r11⟩ := cells12 ((F5.out.block _ (lt_of_heap H4.out) (by omega)).trans H4.out)
  obtain ⟨s0, s1, s2⟩ := cells3 H5.out
  have FALL : Fr (fun k => k = w.heap.size ∨ k = w.heap.size + 1) _ y5 := (F4.out.mono (fun _ _ e => .inl e)).trans (F5.out.mono (fun _ _ e => .inr e))
  refine bodyPost_ret (v := .tuple #[.agg #[.int .i64 0, .int .i64 0, .int .i64 0, .slice none 0 0, .int .i64 0, .int .u32 0, .int .i64 0, .int .i64 0, .int .i64 0, .bool false, .int .i64 0, .slice none 0 0], .int .i64 0, .agg #[.bool false, .int .i64 0, .int .i64 0], .int .i64 3]) (by simp [results, Try.results24, go_sem, r0, r1, r2, r3, r4, r5, r6, r7, r8, r9, r10, r11, s0, s1, s2]) rfl ?_
  have FEND : Fr (fun _ => False) w y5 := ((((HFW.out.mono (T := fun k => w.heap.size ≤ k) (fun _ _ e => e.elim)).trans (F1.out.mono (fun k _ e => by have := HB2.out; omega))).trans (FALL.mono (fun k _ e => by omega)))).mono (fun k hk e => by omega)
  exact ⟨none, 0, none, 0, rfl, SrcAt.nil _ _, SetsAt.nil _, FEND⟩

theorem rp_c (a : Option Addr) (len cap : Nat) (B : List UInt8) (most : Int) (w : World) (hs : SrcAt w a B) (hl : B.length = len) (hc : len ≤ cap) (hm : len ≤ 9223372036854775807) (hmr : -9223372036854775808 ≤ most ∧ most ≤ 9223372036854775807) (N kd fl st : Nat) (h9 : 9 ≤ len) (hN : num (B.take 3) = N) (hkd : (B.getD 3 0).toNat = kd) (hfl : (B.getD 4 0).toNat = fl) (hst : num ((B.drop 5).take 4) % 2147483648 = st) (hm0 : 0 ≤ most) (hbig : most < (N : Int)) :
    Calls Try.prog 24 #[.slice a len cap, .int .i64 most] w fun e w' => ParsedAs w (zeroF, 9, ⟨true, 0, 6⟩, 0) e w' := by
  obtain ⟨W, hW⟩ : ∃ W, W = (w.alloc (.cells #[.int .i64 0, .int .i64 0, .int .i64 0, .slice none 0 0, .int .i64 0, .int .u32 0, .int .i64 0, .int .i64 0, .int .i64 0, .bool false, .int .i64 0, .slice none 0 0] 36)).alloc (.cells #[.bool false, .int .i64 0, .int .i64 0] 38) := ⟨_, rfl⟩
  have HFW : Hid (Fr (fun _ => False) w W) := by rw [hW]; exact ((Fr.refl _ _).alloc _).alloc _
  have hr1 : W.heap[w.heap.size]? = some (.cells #[.int .i64 0, .int .i64 0, .int .i64 0, .slice none 0 0, .int .i64 0, .int .u32 0, .int .i64 0, .int .i64 0, .int .i64 0, .bool false, .int .i64 0, .slice none 0 0] 36 (0, 0)) := by rw [hW]; exact past_at _ (heap_alloc_new w _)
  have hr2 : W.heap[w.heap.size + 1]? = some (.cells #[.bool false, .int .i64 0, .int .i64 0] 38 (0, 0)) := by rw [hW]; exact last_at _ (by simp)
  have HRES : Hid (∀ w', Fr (fun k => W.heap.size ≤ k) W w' → w'.heap[w.heap.size]? = some (.cells #[.int .i64 0, .int .i64 0, .int .i64 0, .slice none 0 0, .int .i64 0, .int .u32 0, .int .i64 0, .int .i64 0, .int .i64 0, .bool false, .int .i64 0, .slice none 0 0] 36 (0, 0)) ∧ w'.heap[w.heap.size + 1]? = some (.cells #[.bool false, .int .i64 0, .int .i64 0] 38 (0, 0))) := fun w' hf => ⟨(hf.block _ (lt_of_heap hr1) (by have := lt_of_heap hr1; omega)).trans hr1, (hf.block _ (lt_of_heap hr2) (by have := lt_of_heap hr2; omega)).trans hr2⟩
  have HB2 : Hid (w.heap.size + 2 ≤ W.heap.size) := by show _ ≤ _; have := lt_of_heap hr2; omega
  have HS : Hid (∀ w', Fr (fun k => W.heap.size ≤ k) W w' → SrcAt w' a B) := fun w' hf => src_ge (hs.oldF HFW.out) hf
  have HL : Hid (B.length = len) := hl
  have FW : Hid (Fr (fun k => W.heap.size ≤ k) W W) := Fr.refl _ _
  clear hr1 hr2
  have hNb : N ≤ 16777215 := by have := num3 B; omega
  have hfb : fl ≤ 255 := by have := (B.getD 4 0).toNat_lt; omega
  have hkb : kd ≤ 255 := by have := (B.getD 3 0).toNat_lt; omega
  have hsb : st ≤ 2147483647 := by omega
  have KH : Hid (Calls Try.prog 32 #[.slice a len cap] W fun e w2 => e = .returned (.tuple #[.int .i64 (N : Int), .int .i64 (kd : Int), .int .i64 (fl : Int), .int .i64 (st : Int), .int .i64 0]) ∧ Fr (fun _ => False) W w2) := by
    have h := rHead_in a len cap W B (HS.out W FW.out) hl hm
    have e : headO B = (N, kd, fl, st, 0) := by rw [headO, if_neg (by omega), hN, hkd, hfl, hst]
    rw [e] at h
    exact h
  have hmn : decide (most < 0) = false := by simp; omega
  clear hs hl
  go_enter Try.func24, Try.ntmps24
  go_upto_region 1 with (fail)
  rw [← hW]
  clear hW
  go_wp2_with (fail)
  refine KH.out.mono ?_
  rintro e w1 ⟨rfl, hf1⟩
  have F1 : Hid (Fr (fun k => W.heap.size ≤ k) W w1) := hf1.mono (fun _ _ e => e.elim)
  clear hf1
  go_wp2_with first
    | (go_at_call 33; refine (fault_in 6 _).mono ?_; rintro e w2 ⟨rfl, hfw2⟩; have F2 : Hid (Fr (fun k => W.heap.size ≤ k) W w2) := F1.out.trans (hfw2.mono (fun _ _ e => e.elim)))
    | (refine wpList_storeB rfl 36 (.tmp 4) (.tmp 35) rfl w.heap.size #[.int .i64 0, .int .i64 0, .int .i64 0, .slice none 0 0, .int .i64 0, .int .u32 0, .int .i64 0, .int .i64 0, .int .i64 0, .bool false, .int .i64 0, .slice none 0 0] #[.int .i64 0, .int .i64 0, .int .i64 0, .slice none 0 0, .int .i64 0, .int .u32 0, .int .i64 0, .int .i64 0, .int .i64 0, .bool false, .int .i64 0, .slice none 0 0] 36 rfl rfl (HRES.out _ F2.out).1 rfl (by kernel_rfl) (by simp [Value.oneCell']) ?_; intro y4 H4 F4)
    | (refine wpList_storeB rfl 38 (.tmp 6) (.tmp 36) rfl (w.heap.size + 1) #[.bool false, .int .i64 0, .int .i64 0] #[.bool true, .int .i64 0, .int .i64 6] 38 rfl rfl ((F4.out.block _ (lt_of_heap (HRES.out _ F2.out).2) (by omega)).trans (HRES.out _ F2.out).2) rfl (by kernel_rfl) (by simp [Value.oneCell']) ?_; intro y5 H5 F5)
  obtain ⟨r0, r1, r2, r3, r4, r5, r6, r7, r8, r9, r10, r11⟩ := cells12 ((F5.out.block _ (lt_of_heap H4.out) (by omega)).trans H4.out)
  obtain ⟨s0, s1, s2⟩ := cells3 H5.out
  have FALL : Fr (fun k => k = w.heap.size ∨ k = w.heap.size + 1) _ y5 := (F4.out.mono (fun _ _ e => .inl e)).trans (F5.out.mono (fun _ _ e => .inr e))
  refine bodyPost_ret (v := .tuple #[.agg #[.int .i64 0, .int .i64 0, .int .i64 0, .slice none 0 0, .int .i64 0, .int .u32 0, .int .i64 0, .int .i64 0, .int .i64 0, .bool false, .int .i64 0, .slice none 0 0], .int .i64 9, .agg #[.bool true, .int .i64 0, .int .i64 6], .int .i64 0]) (by simp [results, Try.results24, go_sem, r0, r1, r2, r3, r4, r5, r6, r7, r8, r9, r10, r11, s0, s1, s2]) rfl ?_
  have FEND : Fr (fun _ => False) w y5 := ((((HFW.out.mono (T := fun k => w.heap.size ≤ k) (fun _ _ e => e.elim)).trans (F2.out.mono (fun k _ e => by have := HB2.out; omega))).trans (FALL.mono (fun k _ e => by omega)))).mono (fun k hk e => by omega)
  exact ⟨none, 0, none, 0, rfl, SrcAt.nil _ _, SetsAt.nil _, FEND⟩

theorem rp_d (a : Option Addr) (len cap : Nat) (B : List UInt8) (most : Int) (w : World) (hs : SrcAt w a B) (hl : B.length = len) (hc : len ≤ cap) (hm : len ≤ 9223372036854775807) (hmr : -9223372036854775808 ≤ most ∧ most ≤ 9223372036854775807) (N kd fl st : Nat) (h9 : 9 ≤ len) (hN : num (B.take 3) = N) (hkd : (B.getD 3 0).toNat = kd) (hfl : (B.getD 4 0).toNat = fl) (hst : num ((B.drop 5).take 4) % 2147483648 = st) (hm0 : 0 ≤ most) (hle : (N : Int) ≤ most) (hsh : len < 9 + N) :
    Calls Try.prog 24 #[.slice a len cap, .int .i64 most] w fun e w' => ParsedAs w (zeroF, 0, ⟨false, 0, 0⟩, 3) e w' := by
  obtain ⟨W, hW⟩ : ∃ W, W = (w.alloc (.cells #[.int .i64 0, .int .i64 0, .int .i64 0, .slice none 0 0, .int .i64 0, .int .u32 0, .int .i64 0, .int .i64 0, .int .i64 0, .bool false, .int .i64 0, .slice none 0 0] 36)).alloc (.cells #[.bool false, .int .i64 0, .int .i64 0] 38) := ⟨_, rfl⟩
  have HFW : Hid (Fr (fun _ => False) w W) := by rw [hW]; exact ((Fr.refl _ _).alloc _).alloc _
  have hr1 : W.heap[w.heap.size]? = some (.cells #[.int .i64 0, .int .i64 0, .int .i64 0, .slice none 0 0, .int .i64 0, .int .u32 0, .int .i64 0, .int .i64 0, .int .i64 0, .bool false, .int .i64 0, .slice none 0 0] 36 (0, 0)) := by rw [hW]; exact past_at _ (heap_alloc_new w _)
  have hr2 : W.heap[w.heap.size + 1]? = some (.cells #[.bool false, .int .i64 0, .int .i64 0] 38 (0, 0)) := by rw [hW]; exact last_at _ (by simp)
  have HRES : Hid (∀ w', Fr (fun k => W.heap.size ≤ k) W w' → w'.heap[w.heap.size]? = some (.cells #[.int .i64 0, .int .i64 0, .int .i64 0, .slice none 0 0, .int .i64 0, .int .u32 0, .int .i64 0, .int .i64 0, .int .i64 0, .bool false, .int .i64 0, .slice none 0 0] 36 (0, 0)) ∧ w'.heap[w.heap.size + 1]? = some (.cells #[.bool false, .int .i64 0, .int .i64 0] 38 (0, 0))) := fun w' hf => ⟨(hf.block _ (lt_of_heap hr1) (by have := lt_of_heap hr1; omega)).trans hr1, (hf.block _ (lt_of_heap hr2) (by have := lt_of_heap hr2; omega)).trans hr2⟩
  have HB2 : Hid (w.heap.size + 2 ≤ W.heap.size) := by show _ ≤ _; have := lt_of_heap hr2; omega
  have HS : Hid (∀ w', Fr (fun k => W.heap.size ≤ k) W w' → SrcAt w' a B) := fun w' hf => src_ge (hs.oldF HFW.out) hf
  have HL : Hid (B.length = len) := hl
  have FW : Hid (Fr (fun k => W.heap.size ≤ k) W W) := Fr.refl _ _
  clear hr1 hr2
  have hNb : N ≤ 16777215 := by have := num3 B; omega
  have hfb : fl ≤ 255 := by have := (B.getD 4 0).toNat_lt; omega
  have hkb : kd ≤ 255 := by have := (B.getD 3 0).toNat_lt; omega
  have hsb : st ≤ 2147483647 := by omega
  have KH : Hid (Calls Try.prog 32 #[.slice a len cap] W fun e w2 => e = .returned (.tuple #[.int .i64 (N : Int), .int .i64 (kd : Int), .int .i64 (fl : Int), .int .i64 (st : Int), .int .i64 0]) ∧ Fr (fun _ => False) W w2) := by
    have h := rHead_in a len cap W B (HS.out W FW.out) hl hm
    have e : headO B = (N, kd, fl, st, 0) := by rw [headO, if_neg (by omega), hN, hkd, hfl, hst]
    rw [e] at h
    exact h
  have hmn : decide (most < 0) = false := by simp; omega
  have hbig : decide (most < (N : Int)) = false := by simp; omega
  have h9n : (9 : Int) + (N : Int) = ((9 + N : Nat) : Int) := by omega
  obtain ⟨en, hen⟩ : ∃ en, 9 + N = en := ⟨_, rfl⟩
  rw [hen] at h9n
  have hwe : IntKind.i64.wrap (en : Int) = (en : Int) := by rw [IntKind.wrap_i64]; omega
  have hsh2 : (len : Int) < (en : Int) := by omega
  clear hs hl
  go_enter Try.func24, Try.ntmps24
  go_upto_region 1 with (fail)
  rw [← hW]
  clear hW
  go_wp2_with (fail)
  refine KH.out.mono ?_
  rintro e w1 ⟨rfl, hf1⟩
  have F1 : Hid (Fr (fun k => W.heap.size ≤ k) W w1) := hf1.mono (fun _ _ e => e.elim)
  clear hf1
  go_wp2_with first
    | (refine wpList_storeB rfl 36 (.tmp 4) (.tmp 42) rfl w.heap.size #[.int .i64 0, .int .i64 0, .int .i64 0, .slice none 0 0, .int .i64 0, .int .u32 0, .int .i64 0, .int .i64 0, .int .i64 0, .bool false, .int .i64 0, .slice none 0 0] #[.int .i64 0, .int .i64 0, .int .i64 0, .slice none 0 0, .int .i64 0, .int .u32 0, .int .i64 0, .int .i64 0, .int .i64 0, .bool false, .int .i64 0, .slice none 0 0] 36 rfl rfl (HRES.out _ F1.out).1 rfl (by kernel_rfl) (by simp [Value.oneCell']) ?_; intro y4 H4 F4)
    | (refine wpList_storeB rfl 38 (.tmp 6) (.tmp 43) rfl (w.heap.size + 1) #[.bool false, .int .i64 0, .int .i64 0] #[.bool false, .int .i64 0, .int .i64 0] 38 rfl rfl ((F4.out.block _ (lt_of_heap (HRES.out _ F1.out).2) (by omega)).trans (HRES.out _ F1.out).2) rfl (by kernel_rfl) (by simp [Value.oneCell']) ?_; intro y5 H5 F5)
  obtain ⟨r0, r1, r2, r3, r4, r5, r6, r7, r8, r9, r10, r11⟩ := cells12 ((F5.out.block _ (lt_of_heap H4.out) (by omega)).trans H4.out)
  obtain ⟨s0, s1, s2⟩ := cells3 H5.out
  have FALL : Fr (fun k => k = w.heap.size ∨ k = w.heap.size + 1) _ y5 := (F4.out.mono (fun _ _ e => .inl e)).trans (F5.out.mono (fun _ _ e => .inr e))
  refine bodyPost_ret (v := .tuple #[.agg #[.int .i64 0, .int .i64 0, .int .i64 0, .slice none 0 0, .int .i64 0, .int .u32 0, .int .i64 0, .int .i64 0, .int .i64 0, .bool false, .int .i64 0, .slice none 0 0], .int .i64 0, .agg #[.bool false, .int .i64 0, .int .i64 0], .int .i64 3]) (by simp [results, Try.results24, go_sem, r0, r1, r2, r3, r4, r5, r6, r7, r8, r9, r10, r11, s0, s1, s2]) rfl ?_
  have FEND : Fr (fun _ => False) w y5 := ((((HFW.out.mono (T := fun k => w.heap.size ≤ k) (fun _ _ e => e.elim)).trans (F1.out.mono (fun k _ e => by have := HB2.out; omega))).trans (FALL.mono (fun k _ e => by omega)))).mono (fun k hk e => by omega)
  exact ⟨none, 0, none, 0, rfl, SrcAt.nil _ _, SetsAt.nil _, FEND⟩

theorem rp_e (a : Option Addr) (len cap : Nat) (B : List UInt8) (most : Int) (w : World) (hs : SrcAt w a B) (hl : B.length = len) (hc : len ≤ cap) (hm : len ≤ 9223372036854775807) (hmr : -9223372036854775808 ≤ most ∧ most ≤ 9223372036854775807) (N kd fl st : Nat) (h9 : 9 ≤ len) (hN : num (B.take 3) = N) (hkd : (B.getD 3 0).toNat = kd) (hfl : (B.getD 4 0).toNat = fl) (hst : num ((B.drop 5).take 4) % 2147483648 = st) (hm0 : 0 ≤ most) (hle : (N : Int) ≤ most) (hlong : 9 + N ≤ len) (hk : knownB (kd : Int) = false) :
    Calls Try.prog 24 #[.slice a len cap, .int .i64 most] w fun e w' => ParsedAs w (F0 kd fl st 0, 9 + N, ⟨false, 0, 0⟩, 0) e w' := by
  obtain ⟨W, hW⟩ : ∃ W, W = (w.alloc (.cells #[.int .i64 0, .int .i64 0, .int .i64 0, .slice none 0 0, .int .i64 0, .int .u32 0, .int .i64 0, .int .i64 0, .int .i64 0, .bool false, .int .i64 0, .slice none 0 0] 36)).alloc (.cells #[.bool false, .int .i64 0, .int .i64 0] 38) := ⟨_, rfl⟩
  have HFW : Hid (Fr (fun _ => False) w W) := by rw [hW]; exact ((Fr.refl _ _).alloc _).alloc _
  have hr1 : W.heap[w.heap.size]? = some (.cells #[.int .i64 0, .int .i64 0, .int .i64 0, .slice none 0 0, .int .i64 0, .int .u32 0, .int .i64 0, .int .i64 0, .int .i64 0, .bool false, .int .i64 0, .slice none 0 0] 36 (0, 0)) := by rw [hW]; exact past_at _ (heap_alloc_new w _)
  have hr2 : W.heap[w.heap.size + 1]? = some (.cells #[.bool false, .int .i64 0, .int .i64 0] 38 (0, 0)) := by rw [hW]; exact last_at _ (by simp)
  have HRES : Hid (∀ w', Fr (fun k => W.heap.size ≤ k) W w' → w'.heap[w.heap.size]? = some (.cells #[.int .i64 0, .int .i64 0, .int .i64 0, .slice none 0 0, .int .i64 0, .int .u32 0, .int .i64 0, .int .i64 0, .int .i64 0, .bool false, .int .i64 0, .slice none 0 0] 36 (0, 0)) ∧ w'.heap[w.heap.size + 1]? = some (.cells #[.bool false, .int .i64 0, .int .i64 0] 38 (0, 0))) := fun w' hf => ⟨(hf.block _ (lt_of_heap hr1) (by have := lt_of_heap hr1; omega)).trans hr1, (hf.block _ (lt_of_heap hr2) (by have := lt_of_heap hr2; omega)).trans hr2⟩
  have HB2 : Hid (w.heap.size + 2 ≤ W.heap.size) := by show _ ≤ _; have := lt_of_heap hr2; omega
  have HS : Hid (∀ w', Fr (fun k => W.heap.size ≤ k) W w' → SrcAt w' a B) := fun w' hf => src_ge (hs.oldF HFW.out) hf
  have HL : Hid (B.length = len) := hl
  have FW : Hid (Fr (fun k => W.heap.size ≤ k) W W) := Fr.refl _ _
  clear hr1 hr2
  have hNb : N ≤ 16777215 := by have := num3 B; omega
  have hfb : fl ≤ 255 := by have := (B.getD 4 0).toNat_lt; omega
  have hkb : kd ≤ 255 := by have := (B.getD 3 0).toNat_lt; omega
  have hsb : st ≤ 2147483647 := by omega
  have KH : Hid (Calls Try.prog 32 #[.slice a len cap] W fun e w2 => e = .returned (.tuple #[.int .i64 (N : Int), .int .i64 (kd : Int), .int .i64 (fl : Int), .int .i64 (st : Int), .int .i64 0]) ∧ Fr (fun _ => False) W w2) := by
    have h := rHead_in a len cap W B (HS.out W FW.out) hl hm
    have e : headO B = (N, kd, fl, st, 0) := by rw [headO, if_neg (by omega), hN, hkd, hfl, hst]
    rw [e] at h
    exact h
  have hmn : decide (most < 0) = false := by simp; omega
  have hbig : decide (most < (N : Int)) = false := by simp; omega
  have h9n : (9 : Int) + (N : Int) = ((9 + N : Nat) : Int) := by omega
  obtain ⟨en, hen⟩ : ∃ en, 9 + N = en := ⟨_, rfl⟩
  rw [hen] at h9n ⊢
  have hwe : IntKind.i64.wrap (en : Int) = (en : Int) := by rw [IntKind.wrap_i64]; omega
  have hsh2 : decide ((len : Int) < (en : Int)) = false := by simp; omega
  have hsh3 : decide (len < en) = false := by simp; omega
  have KN : Hid (∀ w, Calls Try.prog 25 #[.int .i64 (kd : Int)] w fun e w' => e = .returned (.bool false) ∧ w = w') := fun w => by have h := rKnown_in (kd : Int) w; rwa [hk] at h
  clear hs hl
  go_enter Try.func24, Try.ntmps24
  go_upto_region 1 with (fail)
  rw [← hW]
  clear hW
  go_wp2_with (fail)
  refine KH.out.mono ?_
  rintro e w1 ⟨rfl, hf1⟩
  have F1 : Hid (Fr (fun k => W.heap.size ≤ k) W w1) := hf1.mono (fun _ _ e => e.elim)
  clear hf1
  obtain ⟨wa, hwa⟩ : ∃ wa, wa = w1.alloc (.cells #[.int .i64 0, .int .i64 0, .int .i64 0, .slice none 0 0, .int .i64 0, .int .u32 0, .int .i64 0, .int .i64 0, .int .i64 0, .bool false, .int .i64 0, .slice none 0 0] 36) := ⟨_, rfl⟩
  have HWA : Hid (wa.heap[w1.heap.size]? = some (.cells #[.int .i64 0, .int .i64 0, .int .i64 0, .slice none 0 0, .int .i64 0, .int .u32 0, .int .i64 0, .int .i64 0, .int .i64 0, .bool false, .int .i64 0, .slice none 0 0] 36 (0, 0)) ∧ Fr (fun k => W.heap.size ≤ k) W wa) := by rw [hwa]; exact ⟨heap_alloc_new w1 _, F1.out.alloc _⟩
  have HH : Hid (W.heap.size ≤ w1.heap.size) := F1.out.size
  go_upto_region 11 with (refine wpList_storeB rfl 36 (.tmp 13) (.tmp 47) rfl w1.heap.size #[.int .i64 0, .int .i64 0, .int .i64 0, .slice none 0 0, .int .i64 0, .int .u32 0, .int .i64 0, .int .i64 0, .int .i64 0, .bool false, .int .i64 0, .slice none 0 0] #[.int .i64 (kd : Int), .int .i64 (fl : Int), .int .i64 (st : Int), .slice none 0 0, .int .i64 0, .int .u32 0, .int .i64 0, .int .i64 0, .int .i64 0, .bool false, .int .i64 0, .slice none 0 0] 36 rfl rfl (by rw [← hwa]; exact HWA.out.1) rfl (by kernel_rfl) (by simp [Value.oneCell']) ?_; intro w2 H2 F2a)
  rw [← hwa] at F2a
  clear hwa
  have F2 : Hid (Fr (fun k => W.heap.size ≤ k) W w2) := HWA.out.2.trans (F2a.out.mono (fun k _ e => by have := HH.out; omega))
  have A2 : Hid (w2.heap[w1.heap.size]? = some (.cells #[.int .i64 (kd : Int), .int .i64 (fl : Int), .int .i64 (st : Int), .slice none 0 0, .int .i64 0, .int .u32 0, .int .i64 0, .int .i64 0, .int .i64 0, .bool false, .int .i64 0, .slice none 0 0] 36 (0, 0))) := H2.out
  clear F2a H2
  obtain ⟨c0, c1, c2, c3, c4, c5, c6, c7, c8, c9, c10, c11⟩ := cells12 A2.out
  go_wp2_with first
    | (go_at_call 25; refine (KN.out _).mono ?_; rintro e w' ⟨rfl, rfl⟩)
    | (refine wpList_storeB rfl 36 (.tmp 4) (.tmp 51) rfl w.heap.size #[.int .i64 0, .int .i64 0, .int .i64 0, .slice none 0 0, .int .i64 0, .int .u32 0, .int .i64 0, .int .i64 0, .int .i64 0, .bool false, .int .i64 0, .slice none 0 0] #[.int .i64 (kd : Int), .int .i64 (fl : Int), .int .i64 (st : Int), .slice none 0 0, .int .i64 0, .int .u32 0, .int .i64 0, .int .i64 0, .int .i64 0, .bool false, .int .i64 0, .slice none 0 0] 36 rfl rfl (HRES.out _ F2.out).1 rfl (by kernel_rfl) (by simp [Value.oneCell']) ?_; intro y4 H4 F4)
    | (refine wpList_storeB rfl 38 (.tmp 6) (.tmp 54) rfl (w.heap.size + 1) #[.bool false, .int .i64 0, .int .i64 0] #[.bool false, .int .i64 0, .int .i64 0] 38 rfl rfl ((F4.out.block _ (lt_of_heap (HRES.out _ F2.out).2) (by omega)).trans (HRES.out _ F2.out).2) rfl (by kernel_rfl) (by simp [Value.oneCell']) ?_; intro y5 H5 F5)
  obtain ⟨r0, r1, r2, r3, r4, r5, r6, r7, r8, r9, r10, r11⟩ := cells12 ((F5.out.block _ (lt_of_heap H4.out) (by omega)).trans H4.out)
  obtain ⟨s0, s1, s2⟩ := cells3 H5.out
  have FALL : Fr (fun k => k = w.heap.size ∨ k = w.heap.size + 1) _ y5 := (F4.out.mono (fun _ _ e => .inl e)).trans (F5.out.mono (fun _ _ e => .inr e))
  refine bodyPost_ret (v := .tuple #[.agg #[.int .i64 (kd : Int), .int .i64 (fl : Int), .int .i64 (st : Int), .slice none 0 0, .int .i64 0, .int .u32 0, .int .i64 0, .int .i64 0, .int .i64 0, .bool false, .int .i64 0, .slice none 0 0], .int .i64 (en : Int), .agg #[.bool false, .int .i64 0, .int .i64 0], .int .i64 0]) (by simp [results, Try.results24, go_sem, r0, r1, r2, r3, r4, r5, r6, r7, r8, r9, r10, r11, s0, s1, s2]) rfl ?_
  have FEND : Fr (fun _ => False) w y5 := ((((HFW.out.mono (T := fun k => w.heap.size ≤ k) (fun _ _ e => e.elim)).trans (F2.out.mono (fun k _ e => by have := HB2.out; omega))).trans (FALL.mono (fun k _ e => by omega)))).mono (fun k hk e => by omega)
  exact ⟨none, 0, none, 0, rfl, SrcAt.nil _ _, SetsAt.nil _, FEND⟩

theorem rp_f (a : Option Addr) (len cap : Nat) (B : List UInt8) (most : Int) (w : World) (hs : SrcAt w a B) (hl : B.length = len) (hc : len ≤ cap) (hm : len ≤ 9223372036854775807) (hmr : -9223372036854775808 ≤ most ∧ most ≤ 9223372036854775807) (N kd fl st : Nat) (h9 : 9 ≤ len) (hN : num (B.take 3) = N) (hkd : (B.getD 3 0).toNat = kd) (hfl : (B.getD 4 0).toNat = fl) (hst : num ((B.drop 5).take 4) % 2147483648 = st) (hm0 : 0 ≤ most) (hle : (N : Int) ≤ most) (hlong : 9 + N ≤ len) (hk : knownB (kd : Int) = true) (hri : rightB (kd : Int) (st : Int) = false) :
    Calls Try.prog 24 #[.slice a len cap, .int .i64 most] w fun e w' => ParsedAs w (zeroF, 9 + N, ⟨true, 0, 1⟩, 0) e w' := by
  obtain ⟨W, hW⟩ : ∃ W, W = (w.alloc (.cells #[.int .i64 0, .int .i64 0, .int .i64 0, .slice none 0 0, .int .i64 0, .int .u32 0, .int .i64 0, .int .i64 0, .int .i64 0, .bool false, .int .i64 0, .slice none 0 0] 36)).alloc (.cells #[.bool false, .int .i64 0, .int .i64 0] 38) := ⟨_, rfl⟩
  have HFW : Hid (Fr (fun _ => False) w W) := by rw [hW]; exact ((Fr.refl _ _).alloc _).alloc _
  have hr1 : W.heap[w.heap.size]? = some (.cells #[.int .i64 0, .int .i64 0, .int .i64 0, .slice none 0 0, .int .i64 0, .int .u32 0, .int .i64 0, .int .i64 0, .int .i64 0, .bool false, .int .i64 0, .slice none 0 0] 36 (0, 0)) := by rw [hW]; exact past_at _ (heap_alloc_new w _)
  have hr2 : W.heap[w.heap.size + 1]? = some (.cells #[.bool false, .int .i64 0, .int .i64 0] 38 (0, 0)) := by rw [hW]; exact last_at _ (by simp)
  have HRES : Hid (∀ w', Fr (fun k => W.heap.size ≤ k) W w' → w'.heap[w.heap.size]? = some (.cells #[.int .i64 0, .int .i64 0, .int .i64 0, .slice none 0 0, .int .i64 0, .int .u32 0, .int .i64 0, .int .i64 0, .int .i64 0, .bool false, .int .i64 0, .slice none 0 0] 36 (0, 0)) ∧ w'.heap[w.heap.size + 1]? = some (.cells #[.bool false, .int .i64 0, .int .i64 0] 38 (0, 0))) := fun w' hf => ⟨(hf.block _ (lt_of_heap hr1) (by have := lt_of_heap hr1; omega)).trans hr1, (hf.block _ (lt_of_heap hr2) (by have := lt_of_heap hr2; omega)).trans hr2⟩
  have HB2 : Hid (w.heap.size + 2 ≤ W.heap.size) := by show _ ≤ _; have := lt_of_heap hr2; omega
  have HS : Hid (∀ w', Fr (fun k => W.heap.size ≤ k) W w' → SrcAt w' a B) := fun w' hf => src_ge (hs.oldF HFW.out) hf
  have HL : Hid (B.length = len) := hl
  have FW : Hid (Fr (fun k => W.heap.size ≤ k) W W) := Fr.refl _ _
  clear hr1 hr2
  have hNb : N ≤ 16777215 := by have := num3 B; omega
  have hfb : fl ≤ 255 := by have := (B.getD 4 0).toNat_lt; omega
  have hkb : kd ≤ 255 := by have := (B.getD 3 0).toNat_lt; omega
  have hsb : st ≤ 2147483647 := by omega
  have KH : Hid (Calls Try.prog 32 #[.slice a len cap] W fun e w2 => e = .returned (.tuple #[.int .i64 (N : Int), .int .i64 (kd : Int), .int .i64 (fl : Int), .int .i64 (st : Int), .int .i64 0]) ∧ Fr (fun _ => False) W w2) := by
    have h := rHead_in a len cap W B (HS.out W FW.out) hl hm
    have e : headO B = (N, kd, fl, st, 0) := by rw [headO, if_neg (by omega), hN, hkd, hfl, hst]
    rw [e] at h
    exact h
  have hmn : decide (most < 0) = false := by simp; omega
  have hbig : decide (most < (N : Int)) = false := by simp; omega
  have h9n : (9 : Int) + (N : Int) = ((9 + N : Nat) : Int) := by omega
  obtain ⟨en, hen⟩ : ∃ en, 9 + N = en := ⟨_, rfl⟩
  rw [hen] at h9n ⊢
  have hwe : IntKind.i64.wrap (en : Int) = (en : Int) := by rw [IntKind.wrap_i64]; omega
  have hsh2 : decide ((len : Int) < (en : Int)) = false := by simp; omega
  have hsh3 : decide (len < en) = false := by simp; omega
  have KN : Hid (∀ w, Calls Try.prog 25 #[.int .i64 (kd : Int)] w fun e w' => e = .returned (.bool true) ∧ w = w') := fun w => by have h := rKnown_in (kd : Int) w; rwa [hk] at h
  have KR : Hid (∀ w, Calls Try.prog 34 #[.int .i64 (kd : Int), .int .i64 (st : Int)] w fun e w' => e = .returned (.bool false) ∧ w = w') := fun w => by have h := right_in (kd : Int) (st : Int) w; rwa [hri] at h
  clear hs hl
  go_enter Try.func24, Try.ntmps24
  go_upto_region 1 with (fail)
  rw [← hW]
  clear hW
  go_wp2_with (fail)
  refine KH.out.mono ?_
  rintro e w1 ⟨rfl, hf1⟩
  have F1 : Hid (Fr (fun k => W.heap.size ≤ k) W w1) := hf1.mono (fun _ _ e => e.elim)
  clear hf1
  obtain ⟨wa, hwa⟩ : ∃ wa, wa = w1.alloc (.cells #[.int .i64 0, .int .i64 0, .int .i64 0, .slice none 0 0, .int .i64 0, .int .u32 0, .int .i64 0, .int .i64 0, .int .i64 0, .bool false, .int .i64 0, .slice none 0 0] 36) := ⟨_, rfl⟩
  have HWA : Hid (wa.heap[w1.heap.size]? = some (.cells #[.int .i64 0, .int .i64 0, .int .i64 0, .slice none 0 0, .int .i64 0, .int .u32 0, .int .i64 0, .int .i64 0, .int .i64 0, .bool false, .int .i64 0, .slice none 0 0] 36 (0, 0)) ∧ Fr (fun k => W.heap.size ≤ k) W wa) := by rw [hwa]; exact ⟨heap_alloc_new w1 _, F1.out.alloc _⟩
  have HH : Hid (W.heap.size ≤ w1.heap.size) := F1.out.size
  go_upto_region 11 with (refine wpList_storeB rfl 36 (.tmp 13) (.tmp 47) rfl w1.heap.size #[.int .i64 0, .int .i64 0, .int .i64 0, .slice none 0 0, .int .i64 0, .int .u32 0, .int .i64 0, .int .i64 0, .int .i64 0, .bool false, .int .i64 0, .slice none 0 0] #[.int .i64 (kd : Int), .int .i64 (fl : Int), .int .i64 (st : Int), .slice none 0 0, .int .i64 0, .int .u32 0, .int .i64 0, .int .i64 0, .int .i64 0, .bool false, .int .i64 0, .slice none 0 0] 36 rfl rfl (by rw [← hwa]; exact HWA.out.1) rfl (by kernel_rfl) (by simp [Value.oneCell']) ?_; intro w2 H2 F2a)
  rw [← hwa] at F2a
  clear hwa
  have F2 : Hid (Fr (fun k => W.heap.size ≤ k) W w2) := HWA.out.2.trans (F2a.out.mono (fun k _ e => by have := HH.out; omega))
  have A2 : Hid (w2.heap[w1.heap.size]? = some (.cells #[.int .i64 (kd : Int), .int .i64 (fl : Int), .int .i64 (st : Int), .slice none 0 0, .int .i64 0, .int .u32 0, .int .i64 0, .int .i64 0, .int .i64 0, .bool false, .int .i64 0, .slice none 0 0] 36 (0, 0))) := H2.out
  clear F2a H2
  obtain ⟨c0, c1, c2, c3, c4, c5, c6, c7, c8, c9, c10, c11⟩ := cells12 A2.out
  go_wp2_with first
    | (go_at_call 25; refine (KN.out _).mono ?_; rintro e w' ⟨rfl, rfl⟩)
    | (go_at_call 34; refine (KR.out _).mono ?_; rintro e w' ⟨rfl, rfl⟩)
    | (go_at_call 33; refine (fault_in 1 _).mono ?_; rintro e w3 ⟨rfl, hfw3⟩; have F3 : Hid (Fr (fun k => W.heap.size ≤ k) W w3) := F2.out.trans (hfw3.mono (fun _ _ e => e.elim)))
    | (refine wpList_storeB rfl 36 (.tmp 4) (.tmp 59) rfl w.heap.size #[.int .i64 0, .int .i64 0, .int .i64 0, .slice none 0 0, .int .i64 0, .int .u32 0, .int .i64 0, .int .i64 0, .int .i64 0, .bool false, .int .i64 0, .slice none 0 0] #[.int .i64 0, .int .i64 0, .int .i64 0, .slice none 0 0, .int .i64 0, .int .u32 0, .int .i64 0, .int .i64 0, .int .i64 0, .bool false, .int .i64 0, .slice none 0 0] 36 rfl rfl (HRES.out _ F3.out).1 rfl (by kernel_rfl) (by simp [Value.oneCell']) ?_; intro y4 H4 F4)
    | (refine wpList_storeB rfl 38 (.tmp 6) (.tmp 62) rfl (w.heap.size + 1) #[.bool false, .int .i64 0, .int .i64 0] #[.bool true, .int .i64 0, .int .i64 1] 38 rfl rfl ((F4.out.block _ (lt_of_heap (HRES.out _ F3.out).2) (by omega)).trans (HRES.out _ F3.out).2) rfl (by kernel_rfl) (by simp [Value.oneCell']) ?_; intro y5 H5 F5)
  obtain ⟨r0, r1, r2, r3, r4, r5, r6, r7, r8, r9, r10, r11⟩ := cells12 ((F5.out.block _ (lt_of_heap H4.out) (by omega)).trans H4.out)
  obtain ⟨s0, s1, s2⟩ := cells3 H5.out
  have FALL : Fr (fun k => k = w.heap.size ∨ k = w.heap.size + 1) _ y5 := (F4.out.mono (fun _ _ e => .inl e)).trans (F5.out.mono (fun _ _ e => .inr e))
  refine bodyPost_ret (v := .tuple #[.agg #[.int .i64 0, .int .i64 0, .int .i64 0, .slice none 0 0, .int .i64 0, .int .u32 0, .int .i64 0, .int .i64 0, .int .i64 0, .bool false, .int .i64 0, .slice none 0 0], .int .i64 (en : Int), .agg #[.bool true, .int .i64 0, .int .i64 1], .int .i64 0]) (by simp [results, Try.results24, go_sem, r0, r1, r2, r3, r4, r5, r6, r7, r8, r9, r10, r11, s0, s1, s2]) rfl ?_
  have FEND : Fr (fun _ => False) w y5 := ((((HFW.out.mono (T := fun k => w.heap.size ≤ k) (fun _ _ e => e.elim)).trans (F3.out.mono (fun k _ e => by have := HB2.out; omega))).trans (FALL.mono (fun k _ e => by omega)))).mono (fun k hk e => by omega)
  exact ⟨none, 0, none, 0, rfl, SrcAt.nil _ _, SetsAt.nil _, FEND⟩

end Go.Proofs.Ytikaefjhmgcidaa
