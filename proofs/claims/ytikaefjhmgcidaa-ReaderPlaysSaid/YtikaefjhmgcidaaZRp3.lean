/- The frame at the beginning of bytes, by the document: parts. -/
import Derived.Test.YtikaefjhmgcidaaZRp6
import Derived.Deep.Cut
namespace Go.Proofs.Ytikaefjhmgcidaa
open Go.RowKit
set_option linter.unusedVariables false
set_option maxRecDepth 100000
set_option maxHeartbeats 40000000

theorem rp_h (a : Option Addr) (len cap : Nat) (B : List UInt8) (most : Int) (w : World) (hs : SrcAt w a B) (hl : B.length = len) (hc : len ≤ cap) (hm : len ≤ 9223372036854775807) (hmr : -9223372036854775808 ≤ most ∧ most ≤ 9223372036854775807) (N kd fl st : Nat) (h9 : 9 ≤ len) (hN : num (B.take 3) = N) (hkd : (B.getD 3 0).toNat = kd) (hfl : (B.getD 4 0).toNat = fl) (hst : num ((B.drop 5).take 4) % 2147483648 = st) (hm0 : 0 ≤ most) (hle : (N : Int) ≤ most) (hlong : 9 + N ≤ len) (hk : knownB (kd : Int) = true) (hri : rightB (kd : Int) (st : Int) = true) (hz : sizedB (F0 kd fl st 0) N = true) (htwo : ((kd : Int) == 2) = false) (x : Nat) (cd : Int) (X : List UInt8) (hpt : ptX (kd : Int) (fl : Int) ((B.drop 9).take N) = (x, cd, X)) (hcd : (cd == 0) = false) :
    Calls Try.prog 24 #[.slice a len cap, .int .i64 most] w fun e w' => ParsedAs w (zeroF, 9 + N, ⟨true, 0, cd⟩, 0) e w' := by
  obtain ⟨W, hW⟩ : ∃ W, W = (w.alloc (.cells #[.int .i64 0, .int .i64 0, .int .i64 0, .slice none 0 0, .int .i64 0, .int .u32 0, .int .i64 0, .int .i64 0, .int .i64 0, .bool false, .int .i64 0, .slice none 0 0] 36)).alloc (.cells #[.bool false, .int .i64 0, .int .i64 0] 38) := ⟨_, rfl⟩
  have HFW : Hid (Fr (fun _ => False) w W) := by rw [hW]; exact ((Fr.refl _ _).alloc _).alloc _
  have hr1 : W.heap[w.heap.size]? = some (.cells #[.int .i64 0, .int .i64 0, .int .i64 0, .slice none 0 0, .int .i64 0, .int .u32 0, .int .i64 0, .int .i64 0, .int .i64 0, .bool false, .int .i64 0, .slice none 0 0] 36 (0, 0)) := by rw [hW]; exact past_at _ (heap_alloc_new w _)
  have hr2 : W.heap[w.heap.size + 1]? = some (.cells #[.bool false, .int .i64 0, .int .i64 0] 38 (0, 0)) := by rw [hW]; exact last_at _ (by simp)
  have HRES : Hid (∀ w', Fr (fun k => W.heap.size ≤ k) W w' → w'.heap[w.heap.size]? = some (.cells #[.int .i64 0, .int .i64 0, .int .i64 0, .slice none 0 0, .int .i64 0, .int .u32 0, .int .i64 0, .int .i64 0, .int .i64 0, .bool false, .int .i64 0, .slice none 0 0] 36 (0, 0)) ∧ w'.heap[w.heap.size + 1]? = some (.cells #[.bool false, .int .i64 0, .int .i64 0] 38 (0, 0))) := fun w' hf => ⟨(hf.block _ (lt_of_heap hr1) (by have := lt_of_heap hr1; omega)).trans hr1, (hf.block _ (lt_of_heap hr2) (by have := lt_of_heap hr2; omega)).trans hr2⟩
  have HB2 : Hid (w.heap.size + 2 ≤ W.heap.size) := by show _ ≤ _; have := lt_of_heap hr2; omega
  have HS : Hid (∀ w', Fr (fun k => W.heap.size ≤ k) W w' → SrcAt w' a B) := fun w' hf => src_ge (hs.oldF HFW.out) hf
  have HL : Hid (B.length = len) := hl
  have FW : Hid (Fr (fun k => W.heap.size ≤ k) W W) := Fr.refl _ _
  clear hr1 hr2
  have hNb : N ≤ 16777215 := by have := num3 B; omega
  have hfb : fl ≤ 255 := by have := (B.getD 4 0).toNat_lt; omega
  have hkb : kd ≤ 255 := by have := (B.getD 3 0).toNat_lt; omega
  have hsb : st ≤ 2147483647 := by omega
  have KH : Hid (Calls Try.prog 32 #[.slice a len cap] W fun e w2 => e = .returned (.tuple #[.int .i64 (N : Int), .int .i64 (kd : Int), .int .i64 (fl : Int), .int .i64 (st : Int), .int .i64 0]) ∧ Fr (fun _ => False) W w2) := by
    have h := rHead_in a len cap W B (HS.out W FW.out) hl hm
    have e : headO B = (N, kd, fl, st, 0) := by rw [headO, if_neg (by omega), hN, hkd, hfl, hst]
    rw [e] at h
    exact h
  have hmn : decide (most < 0) = false := by simp; omega
  have hbig : decide (most < (N : Int)) = false := by simp; omega
  have h9n : (9 : Int) + (N : Int) = ((9 + N : Nat) : Int) := by omega
  obtain ⟨en, hen⟩ : ∃ en, 9 + N = en := ⟨_, rfl⟩
  rw [hen] at h9n ⊢
  have hwe : IntKind.i64.wrap (en : Int) = (en : Int) := by rw [IntKind.wrap_i64]; omega
  have hsh2 : decide ((len : Int) < (en : Int)) = false := by simp; omega
  have hsh3 : decide (len < en) = false := by simp; omega
  have KN : Hid (∀ w, Calls Try.prog 25 #[.int .i64 (kd : Int)] w fun e w' => e = .returned (.bool true) ∧ w = w') := fun w => by have h := rKnown_in (kd : Int) w; rwa [hk] at h
  have KR : Hid (∀ w, Calls Try.prog 34 #[.int .i64 (kd : Int), .int .i64 (st : Int)] w fun e w' => e = .returned (.bool true) ∧ w = w') := fun w => by have h := right_in (kd : Int) (st : Int) w; rwa [hri] at h
  have KZ : Hid (∀ w, Calls Try.prog 35 #[.agg #[.int .i64 (kd : Int), .int .i64 (fl : Int), .int .i64 (st : Int), .slice none 0 0, .int .i64 0, .int .u32 0, .int .i64 0, .int .i64 0, .int .i64 0, .bool false, .int .i64 0, .slice none 0 0], .int .i64 (N : Int)] w fun e w' => e = .returned (.bool false) ∧ Fr (fun _ => False) w w') := fun w => by have h := rsize_in (F0 kd fl st 0) N none none 0 0 w (by simp [F0]) (by simp [F0]; omega) (by omega); rw [hz] at h; exact h
  obtain ⟨dp, hcut, hcs⟩ := cutM a len cap 9 en B hl hc (by omega) (by omega)
  have hd9 : en - 9 = N := by omega
  rw [hd9] at hcut hcs
  obtain ⟨cp9, hcp9⟩ : ∃ cp9, cap - 9 = cp9 := ⟨_, rfl⟩
  rw [hcp9] at hcut
  have hcut' : ∀ w, (Instr.slice 31 (.slice a len cap) (some (.int .i64 9)) (some (.int .i64 (en : Int))) none).run Try.prog w = .ok (.slice dp N cp9) w := hcut
  have KPT : Hid (∀ w', Fr (fun k => W.heap.size ≤ k) W w' → Calls Try.prog 36 #[.agg #[.int .i64 (kd : Int), .int .i64 (fl : Int), .int .i64 (st : Int), .slice none 0 0, .int .i64 0, .int .u32 0, .int .i64 0, .int .i64 0, .int .i64 0, .bool false, .int .i64 0, .slice none 0 0], .slice dp N cp9] w' fun e w2 => ∃ a' n' c', e = .returned (.tuple #[.agg #[.int .i64 (kd : Int), .int .i64 (fl : Int), .int .i64 (st : Int), .slice none 0 0, .int .i64 (x : Int), .int .u32 0, .int .i64 0, .int .i64 0, .int .i64 0, .bool false, .int .i64 0, .slice none 0 0], .slice a' n' c', .agg #[.bool true, .int .i64 0, .int .i64 cd]]) ∧ Fr (fun _ => False) w' w2 ∧ (cd = 0 → SrcAt w2 a' X ∧ X.length = n' ∧ n' ≤ c')) := fun w' hf => by
    have h := rparts_in (kd : Int) (fl : Int) (st : Int) dp N cp9 ((B.drop 9).take N) w' hk (by omega) (by omega) (hcs _ (HS.out w' hf)) (by rw [List.length_take, List.length_drop, hl]; omega) (by omega) hNb
    rw [hpt] at h
    refine h.mono ?_
    rintro e w2 ⟨a', n', c', rfl, hf2, hX⟩
    refine ⟨a', n', c', ?_, hf2, hX⟩
    simp only [hcd]; rfl
  clear hcut hcs hd9 hcp9
  clear hs hl
  go_enter Try.func24, Try.ntmps24
  go_upto_region 1 with (fail)
  rw [← hW]
  clear hW
  go_wp2_with (fail)
  refine KH.out.mono ?_
  rintro e w1 ⟨rfl, hf1⟩
  have F1 : Hid (Fr (fun k => W.heap.size ≤ k) W w1) := hf1.mono (fun _ _ e => e.elim)
  clear hf1
  obtain ⟨wa, hwa⟩ : ∃ wa, wa = w1.alloc (.cells #[.int .i64 0, .int .i64 0, .int .i64 0, .slice none 0 0, .int .i64 0, .int .u32 0, .int .i64 0, .int .i64 0, .int .i64 0, .bool false, .int .i64 0, .slice none 0 0] 36) := ⟨_, rfl⟩
  have HWA : Hid (wa.heap[w1.heap.size]? = some (.cells #[.int .i64 0, .int .i64 0, .int .i64 0, .slice none 0 0, .int .i64 0, .int .u32 0, .int .i64 0, .int .i64 0, .int .i64 0, .bool false, .int .i64 0, .slice none 0 0] 36 (0, 0)) ∧ Fr (fun k => W.heap.size ≤ k) W wa) := by rw [hwa]; exact ⟨heap_alloc_new w1 _, F1.out.alloc _⟩
  have HH : Hid (W.heap.size ≤ w1.heap.size) := F1.out.size
  go_upto_region 11 with (refine wpList_storeB rfl 36 (.tmp 13) (.tmp 47) rfl w1.heap.size #[.int .i64 0, .int .i64 0, .int .i64 0, .slice none 0 0, .int .i64 0, .int .u32 0, .int .i64 0, .int .i64 0, .int .i64 0, .bool false, .int .i64 0, .slice none 0 0] #[.int .i64 (kd : Int), .int .i64 (fl : Int), .int .i64 (st : Int), .slice none 0 0, .int .i64 0, .int .u32 0, .int .i64 0, .int .i64 0, .int .i64 0, .bool false, .int .i64 0, .slice none 0 0] 36 rfl rfl (by rw [← hwa]; exact HWA.out.1) rfl (by kernel_rfl) (by simp [Value.oneCell']) ?_; intro w2 H2 F2a)
  rw [← hwa] at F2a
  clear hwa
  have F2 : Hid (Fr (fun k => W.heap.size ≤ k) W w2) := HWA.out.2.trans (F2a.out.mono (fun k _ e => by have := HH.out; omega))
  have A2 : Hid (w2.heap[w1.heap.size]? = some (.cells #[.int .i64 (kd : Int), .int .i64 (fl : Int), .int .i64 (st : Int), .slice none 0 0, .int .i64 0, .int .u32 0, .int .i64 0, .int .i64 0, .int .i64 0, .bool false, .int .i64 0, .slice none 0 0] 36 (0, 0))) := H2.out
  clear F2a H2
  obtain ⟨c0, c1, c2, c3, c4, c5, c6, c7, c8, c9, c10, c11⟩ := cells12 A2.out
  go_wp2_with first
    | (go_at_call 25; refine (KN.out _).mono ?_; rintro e w' ⟨rfl, rfl⟩)
    | (go_at_call 34; refine (KR.out _).mono ?_; rintro e w' ⟨rfl, rfl⟩)
    | (go_at_call 33; refine (fault_in 6 _).mono ?_; rintro e w3 ⟨rfl, hfw3⟩; have F3 : Hid (Fr (fun k => W.heap.size ≤ k) W w3) := F2.out.trans (hfw3.mono (fun _ _ e => e.elim)); refine Hid.out ?_)
  unfold Hid
  have A3 : Hid (w3.heap[w1.heap.size]? = some (.cells #[.int .i64 (kd : Int), .int .i64 (fl : Int), .int .i64 (st : Int), .slice none 0 0, .int .i64 0, .int .u32 0, .int .i64 0, .int .i64 0, .int .i64 0, .bool false, .int .i64 0, .slice none 0 0] 36 (0, 0))) := (hfw3.block _ (lt_of_heap A2.out) id).trans A2.out
  have HH3 : Hid (w1.heap.size < w3.heap.size) := lt_of_heap A3.out
  clear hfw3 c0 c1 c2 c3 c4 c5 c6 c7 c8 c9 c10 c11
  obtain ⟨wb, hwb⟩ : ∃ wb, wb = w3.alloc (.cells #[.bool false, .int .i64 0, .int .i64 0] 38) := ⟨_, rfl⟩
  have HWB : Hid (wb.heap[w3.heap.size]? = some (.cells #[.bool false, .int .i64 0, .int .i64 0] 38 (0, 0)) ∧ Fr (fun k => W.heap.size ≤ k) W wb ∧ Fr (fun _ => False) w3 wb) := by rw [hwb]; exact ⟨heap_alloc_new w3 _, F3.out.alloc _, (Fr.refl _ _).alloc _⟩
  go_upto_region 16 with (refine wpList_storeB rfl 38 (.tmp 14) (.tmp 63) rfl w3.heap.size #[.bool false, .int .i64 0, .int .i64 0] #[.bool true, .int .i64 0, .int .i64 6] 38 rfl rfl (by rw [← hwb]; exact HWB.out.1) rfl (by kernel_rfl) (by simp [Value.oneCell']) ?_; intro w4 H4a F4a)
  rw [← hwb] at F4a
  clear hwb
  have B4 : Hid (w4.heap[w3.heap.size]? = some (.cells #[.bool true, .int .i64 0, .int .i64 6] 38 (0, 0))) := H4a.out
  have F4b : Hid (Fr (fun k => k = w3.heap.size) wb w4) := F4a.out
  have A4 : Hid (w4.heap[w1.heap.size]? = some (.cells #[.int .i64 (kd : Int), .int .i64 (fl : Int), .int .i64 (st : Int), .slice none 0 0, .int .i64 0, .int .u32 0, .int .i64 0, .int .i64 0, .int .i64 0, .bool false, .int .i64 0, .slice none 0 0] 36 (0, 0))) := (F4b.out.block _ (by have := HWB.out.2.2.size; have := HH3.out; omega) (by have := HH3.out; omega)).trans ((HWB.out.2.2.block _ HH3.out id).trans A3.out)
  have F4c : Hid (Fr (fun k => W.heap.size ≤ k) W w4) := HWB.out.2.1.trans (F4b.out.mono (fun k _ e => by have := HH.out; have := HH3.out; omega))
  clear H4a F4a F4b
  obtain ⟨c0, c1, c2, c3, c4, c5, c6, c7, c8, c9, c10, c11⟩ := cells12 A4.out
  go_upto_region 18 with (fail)
  obtain ⟨w5, hw5⟩ : ∃ w5, w5 = w4 := ⟨_, rfl⟩
  have B5 : Hid (w5.heap[w3.heap.size]? = some (.cells #[.bool true, .int .i64 0, .int .i64 6] 38 (0, 0))) := by rw [hw5]; exact B4.out
  have F45 : Hid (Fr (fun k => k = w3.heap.size) w4 w5) := by rw [hw5]; exact Fr.refl _ _
  rw [← hw5]
  clear hw5 c0 c1 c2 c3 c4 c5 c6 c7 c8 c9 c10 c11
  have A5 : Hid (w5.heap[w1.heap.size]? = some (.cells #[.int .i64 (kd : Int), .int .i64 (fl : Int), .int .i64 (st : Int), .slice none 0 0, .int .i64 0, .int .u32 0, .int .i64 0, .int .i64 0, .int .i64 0, .bool false, .int .i64 0, .slice none 0 0] 36 (0, 0))) := (F45.out.block _ (lt_of_heap A4.out) (by have := HH3.out; omega)).trans A4.out
  have F5c : Hid (Fr (fun k => W.heap.size ≤ k) W w5) := F4c.out.trans (F45.out.mono (fun k _ e => by have := HH.out; have := HH3.out; omega))
  clear B4 F45
  obtain ⟨c0, c1, c2, c3, c4, c5, c6, c7, c8, c9, c10, c11⟩ := cells12 A5.out
  go_wp2_with (go_at_call 35; refine (KZ.out _).mono ?_; rintro e w6 ⟨rfl, hf6⟩; refine Hid.out ?_)
  unfold Hid
  have A6 : Hid (w6.heap[w1.heap.size]? = some (.cells #[.int .i64 (kd : Int), .int .i64 (fl : Int), .int .i64 (st : Int), .slice none 0 0, .int .i64 0, .int .u32 0, .int .i64 0, .int .i64 0, .int .i64 0, .bool false, .int .i64 0, .slice none 0 0] 36 (0, 0))) := (hf6.block _ (lt_of_heap A5.out) id).trans A5.out
  have B6 : Hid (w6.heap[w3.heap.size]? = some (.cells #[.bool true, .int .i64 0, .int .i64 6] 38 (0, 0))) := (hf6.block _ (lt_of_heap B5.out) id).trans B5.out
  have F6 : Hid (Fr (fun k => W.heap.size ≤ k) W w6) := F5c.out.trans (hf6.mono (fun _ _ e => e.elim))
  clear hf6 c0 c1 c2 c3 c4 c5 c6 c7 c8 c9 c10 c11
  go_wp2_with (fail)
  obtain ⟨c0, c1, c2, c3, c4, c5, c6, c7, c8, c9, c10, c11⟩ := cells12 A6.out
  refine wp_region_cut 5 8 #[true, true, true, true, true, false, false, false, false, false, false, false, false] (by kernel_rfl) (by kernel_rfl) rfl rfl ?_
  simp only [List.take_succ_cons, List.take_zero]
  repeat (go_big_quiet_step (fail))
  refine wpQuiet_nil ?_
  rintro _ ⟨nq, rfl⟩ mm
  clear c0 c1 c2 c3 c4 c5 c6 c7 c8 c9 c10 c11
  have FD6 : Hid (Fr (fun k => W.heap.size ≤ k) W (w6.drewN nq)) := F6.out.drewN nq
  refine wpAny_ready (rs := [5]) (by kernel_rfl) (by simp) ?_
  refine AllReady.cons rfl (fun K hK => ?_) AllReady.nil
  go_simp
  refine (KPT.out _ FD6.out).mono ?_
  rintro e w7 ⟨a7, n7, d7, rfl, hf7, hX7⟩
  have hf67 : Fr (fun _ => False) w6 w7 := ((Fr.refl _ _).drewN nq).trans hf7
  have A7 : Hid (w7.heap[w1.heap.size]? = some (.cells #[.int .i64 (kd : Int), .int .i64 (fl : Int), .int .i64 (st : Int), .slice none 0 0, .int .i64 0, .int .u32 0, .int .i64 0, .int .i64 0, .int .i64 0, .bool false, .int .i64 0, .slice none 0 0] 36 (0, 0))) := (hf67.block _ (lt_of_heap A6.out) id).trans A6.out
  have B7 : Hid (w7.heap[w3.heap.size]? = some (.cells #[.bool true, .int .i64 0, .int .i64 6] 38 (0, 0))) := (hf67.block _ (lt_of_heap B6.out) id).trans B6.out
  have F7 : Hid (Fr (fun k => W.heap.size ≤ k) W w7) := FD6.out.trans (hf7.mono (fun _ _ e => e.elim))
  have X7 : Hid (True) := trivial
  clear hf7 hX7 hf67
  refine hK _ _ ?_
  clear hK K
  refine wpAny_of_held (S := fun _ => True) _ _ _ _ ?_
  refine wpAnyH_take (i := 6) (oi := _) (v := .tuple #[.agg #[.int .i64 (kd : Int), .int .i64 (fl : Int), .int .i64 (st : Int), .slice none 0 0, .int .i64 (x : Int), .int .u32 0, .int .i64 0, .int .i64 0, .int .i64 0, .bool false, .int .i64 0, .slice none 0 0], .slice a7 n7 d7, .agg #[.bool true, .int .i64 0, .int .i64 cd]]) rfl (by kernel_rfl) (by kernel_rfl) (by kernel_rfl) (fun _ _ _ h => h) (Or.inl ⟨by kernel_rfl, fun w2 hw => by go_simp⟩) trivial ?_
  refine wpAnyH_take (i := 7) (oi := _) (v := .agg #[.int .i64 (kd : Int), .int .i64 (fl : Int), .int .i64 (st : Int), .slice none 0 0, .int .i64 (x : Int), .int .u32 0, .int .i64 0, .int .i64 0, .int .i64 0, .bool false, .int .i64 0, .slice none 0 0]) rfl (by kernel_rfl) (by kernel_rfl) (by kernel_rfl) (fun _ _ _ h => h) (Or.inl ⟨by kernel_rfl, fun w2 hw => by go_simp⟩) trivial ?_
  refine wpAnyH_take (i := 8) (oi := _) (v := .slice a7 n7 d7) rfl (by kernel_rfl) (by kernel_rfl) (by kernel_rfl) (fun _ _ _ h => h) (Or.inl ⟨by kernel_rfl, fun w2 hw => by go_simp⟩) trivial ?_
  refine wpAnyH_take (i := 9) (oi := _) (v := .agg #[.bool true, .int .i64 0, .int .i64 cd]) rfl (by kernel_rfl) (by kernel_rfl) (by kernel_rfl) (fun _ _ _ h => h) (Or.inl ⟨by kernel_rfl, fun w2 hw => by go_simp⟩) trivial ?_
  simp only [Act.put, List.getElem_toArray, List.getElem_cons_succ, List.getElem_cons_zero, List.setIfInBounds_toArray, List.set_cons_zero, List.set_cons_succ]
  refine wpAnyH_ready (rs := [10]) (by kernel_rfl) (by simp) ?_
  refine AllReadyH.cons rfl (fun K hK => ?_) AllReadyH.nil
  refine stepR_storeB rfl rfl 36 (.tmp 13) (.tmp 82) rfl w1.heap.size #[.int .i64 (kd : Int), .int .i64 (fl : Int), .int .i64 (st : Int), .slice none 0 0, .int .i64 0, .int .u32 0, .int .i64 0, .int .i64 0, .int .i64 0, .bool false, .int .i64 0, .slice none 0 0] #[.int .i64 (kd : Int), .int .i64 (fl : Int), .int .i64 (st : Int), .slice none 0 0, .int .i64 (x : Int), .int .u32 0, .int .i64 0, .int .i64 0, .int .i64 0, .bool false, .int .i64 0, .slice none 0 0] 36 rfl rfl A7.out rfl (by kernel_rfl) (by simp [Value.oneCell']) ?_
  intro w8 H8 F8
  refine hK.out _ _ trivial (fun _ => ?_)
  clear hK K
  refine wpAnyH_ready (rs := [11]) (by kernel_rfl) (by simp) ?_
  refine AllReadyH.cons rfl (fun K hK => ?_) AllReadyH.nil
  go_simp
  refine hK.out _ _ trivial (fun _ => ?_)
  clear hK K
  have B8 : Hid (w8.heap[w3.heap.size]? = some (.cells #[.bool true, .int .i64 0, .int .i64 6] 38 (0, 0))) := (F8.out.block _ (lt_of_heap B7.out) (by have := HH3.out; omega)).trans B7.out
  refine wpAnyH_ready (rs := [12]) (by kernel_rfl) (by simp) ?_
  refine AllReadyH.cons rfl (fun K hK => ?_) AllReadyH.nil
  refine stepR_storeB rfl rfl 38 (.tmp 14) (.tmp 84) rfl w3.heap.size #[.bool true, .int .i64 0, .int .i64 6] #[.bool true, .int .i64 0, .int .i64 cd] 38 rfl rfl B8.out rfl (by kernel_rfl) (by simp [Value.oneCell']) ?_
  intro w9 H9 F9a
  refine hK.out _ _ trivial (fun _ => ?_)
  clear hK K
  refine wpAnyH_done (by kernel_rfl) ?_ _
  have B9 : Hid (w9.heap[w3.heap.size]? = some (.cells #[.bool true, .int .i64 0, .int .i64 cd] 38 (0, 0))) := H9.out
  have A9 : Hid (w9.heap[w1.heap.size]? = some (.cells #[.int .i64 (kd : Int), .int .i64 (fl : Int), .int .i64 (st : Int), .slice none 0 0, .int .i64 (x : Int), .int .u32 0, .int .i64 0, .int .i64 0, .int .i64 0, .bool false, .int .i64 0, .slice none 0 0] 36 (0, 0))) := (F9a.out.block _ (lt_of_heap H8.out) (by have := HH3.out; omega)).trans H8.out
  have F9 : Hid (Fr (fun k => W.heap.size ≤ k) W w9) := (F7.out.trans (F8.out.mono (fun k _ e => by have := HH.out; omega))).trans (F9a.out.mono (fun k _ e => by have := HH.out; have := HH3.out; omega))
  clear X7 A7 B7 F7 H8 F8 B8 H9 F9a
  obtain ⟨c0, c1, c2, c3, c4, c5, c6, c7, c8, c9, c10, c11⟩ := cells12 A9.out
  obtain ⟨g0, g1, g2⟩ := cells3 B9.out
  go_wp2_with (fail)
  clear c0 c1 c2 c3 c4 c5 c6 c7 c8 c9 c10 c11 g0 g1 g2
  refine wp_region_held_drew (S := fun w2 => w2.heap[w3.heap.size]? = some (.cells #[.bool true, .int .i64 0, .int .i64 cd] 38 (0, 0))) (by kernel_rfl) B9.out (fun hHeld => ?_)
  refine wpAnyH_take (i := 0) (oi := _) (v := .agg #[.int .i64 0, .int .i64 0, .int .i64 0, .slice none 0 0, .int .i64 0, .int .u32 0, .int .i64 0, .int .i64 0, .int .i64 0, .bool false, .int .i64 0, .slice none 0 0]) rfl (by kernel_rfl) (by kernel_rfl) (by kernel_rfl) (fun _ _ _ h => h) (Or.inl ⟨by kernel_rfl, fun w2 hw => by go_simp⟩) hHeld ?_
  refine wpAnyH_take (i := 1) (oi := _) (v := .int .i64 (N : Int)) rfl (by kernel_rfl) (by kernel_rfl) (by kernel_rfl) (fun _ _ _ h => h) (Or.inl ⟨by kernel_rfl, fun w2 hw => by go_simp⟩) hHeld ?_
  refine wpAnyH_take (i := 2) (oi := _) (v := .int .i64 (en : Int)) rfl (by kernel_rfl) (by kernel_rfl) (by kernel_rfl) (fun _ _ _ h => h) (Or.inl ⟨by kernel_rfl, fun w2 hw => by go_simp⟩) hHeld ?_
  refine wpAnyH_take (i := 3) (oi := _) (v := .agg #[.bool true, .int .i64 0, .int .i64 cd]) rfl (by kernel_rfl) (by kernel_rfl) (by kernel_rfl) (fun _ _ _ h => h) (Or.inl ⟨by kernel_rfl, fun w2 hw => by obtain ⟨c0, c1, c2⟩ := cells3 hw; go_simp⟩) hHeld ?_
  simp only [Act.put, List.getElem_toArray, List.getElem_cons_succ, List.getElem_cons_zero, List.setIfInBounds_toArray, List.set_cons_zero, List.set_cons_succ]
  refine wpAnyH_ready (rs := [4]) (by kernel_rfl) (by simp) ?_
  refine AllReadyH.cons rfl (fun K hK => ?_) AllReadyH.nil
  have FD : Hid (Fr (fun k => W.heap.size ≤ k) W w9.drew) := F9.out.drew
  have hblk : w.heap.size + 2 ≤ w3.heap.size := by have := HB2.out; have := HH.out; have := HH3.out; omega
  refine stepR_storeB rfl rfl 36 (.tmp 4) (.tmp 96) rfl w.heap.size #[.int .i64 0, .int .i64 0, .int .i64 0, .slice none 0 0, .int .i64 0, .int .u32 0, .int .i64 0, .int .i64 0, .int .i64 0, .bool false, .int .i64 0, .slice none 0 0] #[.int .i64 0, .int .i64 0, .int .i64 0, .slice none 0 0, .int .i64 0, .int .u32 0, .int .i64 0, .int .i64 0, .int .i64 0, .bool false, .int .i64 0, .slice none 0 0] 36 rfl rfl (HRES.out _ FD.out).1 rfl (by kernel_rfl) (by simp [Value.oneCell']) ?_
  intro y4 H4 F4
  refine hK.out _ _ ((F4.out.block _ (lt_of_heap hHeld) (by omega)).trans hHeld) (fun hHeld3 => ?_)
  clear hK K
  refine wpAnyH_ready (rs := [5]) (by kernel_rfl) (by simp) ?_
  refine AllReadyH.cons rfl (fun K hK => ?_) AllReadyH.nil
  go_simp
  refine hK.out _ _ hHeld3 (fun _ => ?_)
  clear hK K
  refine wpAnyH_ready (rs := [6]) (by kernel_rfl) (by simp) ?_
  refine AllReadyH.cons rfl (fun K hK => ?_) AllReadyH.nil
  refine stepR_storeB rfl rfl 38 (.tmp 6) (.tmp 99) rfl (w.heap.size + 1) #[.bool false, .int .i64 0, .int .i64 0] #[.bool true, .int .i64 0, .int .i64 cd] 38 rfl rfl ((F4.out.block _ (lt_of_heap (HRES.out _ FD.out).2) (by omega)).trans (HRES.out _ FD.out).2) rfl (by kernel_rfl) (by simp [Value.oneCell']) ?_
  intro y5 H5 F5
  refine hK.out _ _ ((F5.out.block _ (lt_of_heap hHeld3) (by omega)).trans hHeld3) (fun hHeld4 => ?_)
  clear hK K
  refine wpAnyH_ready (rs := [7]) (by kernel_rfl) (by simp) ?_
  refine AllReadyH.cons rfl (fun K hK => ?_) AllReadyH.nil
  go_simp
  refine hK.out _ _ hHeld4 (fun _ => ?_)
  clear hK K
  refine wpAnyH_done (by kernel_rfl) ?_ _
  go_wp2_with (fail)
  obtain ⟨r0, r1, r2, r3, r4, r5, r6, r7, r8, r9, r10, r11⟩ := cells12 ((F5.out.block _ (lt_of_heap H4.out) (by omega)).trans H4.out)
  obtain ⟨s0, s1, s2⟩ := cells3 H5.out
  have FALL : Fr (fun k => k = w.heap.size ∨ k = w.heap.size + 1) _ y5 := (F4.out.mono (fun _ _ e => .inl e)).trans (F5.out.mono (fun _ _ e => .inr e))
  refine bodyPost_ret (v := .tuple #[.agg #[.int .i64 0, .int .i64 0, .int .i64 0, .slice none 0 0, .int .i64 0, .int .u32 0, .int .i64 0, .int .i64 0, .int .i64 0, .bool false, .int .i64 0, .slice none 0 0], .int .i64 (en : Int), .agg #[.bool true, .int .i64 0, .int .i64 cd], .int .i64 0]) (by simp [results, Try.results24, go_sem, r0, r1, r2, r3, r4, r5, r6, r7, r8, r9, r10, r11, s0, s1, s2]) rfl ?_
  have FEND : Fr (fun _ => False) w y5 := ((((HFW.out.mono (T := fun k => w.heap.size ≤ k) (fun _ _ e => e.elim)).trans (FD.out.mono (fun k _ e => by have := HB2.out; omega))).trans (FALL.mono (fun k _ e => by omega)))).mono (fun k hk e => by omega)
  exact ⟨none, 0, none, 0, rfl, SrcAt.nil _ _, SetsAt.nil _, FEND⟩

end Go.Proofs.Ytikaefjhmgcidaa
