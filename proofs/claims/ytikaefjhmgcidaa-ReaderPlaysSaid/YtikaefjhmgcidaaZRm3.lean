/- What stands in a frame, by the document: payloads behind numbers. -/
import Derived.Test.YtikaefjhmgcidaaZRm
namespace Go.Proofs.Ytikaefjhmgcidaa
open Go.RowKit
set_option linter.unusedVariables false
set_option maxRecDepth 100000
set_option maxHeartbeats 4000000

theorem fd_5 (fl st : Int) (x : Nat) (a : Option Addr) (len cap : Nat) (b : List UInt8) (w : World) (h0 : 0 ≤ fl) (h1 : fl ≤ 255) (hs : SrcAt w a b) (hl : b.length = len) (hc : len ≤ cap) (hm : len ≤ 16777215) (hn : 4 ≤ len) :
    Calls Try.prog 37 #[.agg #[.int .i64 5, .int .i64 fl, .int .i64 st, .slice none 0 0, .int .i64 (x : Int), .int .u32 0, .int .i64 0, .int .i64 0, .int .i64 0, .bool false, .int .i64 0, .slice none 0 0], .slice a len cap] w fun e w' => RdAs w (⟨5, fl, st, b.drop 4, x, 0, ((num (b.take 4) % 2147483648 : Nat) : Int), 0, 0, false, 0, []⟩, ⟨false, 0, 0⟩) e w' := by
  obtain ⟨W, hW⟩ : ∃ W, W = ((w.alloc (.cells #[.int .i64 5, .int .i64 fl, .int .i64 st, .slice none 0 0, .int .i64 (x : Int), .int .u32 0, .int .i64 0, .int .i64 0, .int .i64 0, .bool false, .int .i64 0, .slice none 0 0] 36)).alloc (.cells #[.int .i64 0, .int .i64 0, .int .i64 0, .slice none 0 0, .int .i64 0, .int .u32 0, .int .i64 0, .int .i64 0, .int .i64 0, .bool false, .int .i64 0, .slice none 0 0] 36)).alloc (.cells #[.bool false, .int .i64 0, .int .i64 0] 38) := ⟨_, rfl⟩
  have HFW : Hid (Fr (fun _ => False) w W) := by rw [hW]; exact (((Fr.refl _ _).alloc _).alloc _).alloc _
  have A0 : Hid (W.heap[w.heap.size]? = some (.cells #[.int .i64 5, .int .i64 fl, .int .i64 st, .slice none 0 0, .int .i64 (x : Int), .int .u32 0, .int .i64 0, .int .i64 0, .int .i64 0, .bool false, .int .i64 0, .slice none 0 0] 36 (0, 0))) := by rw [hW]; exact past_at _ (past_at _ (heap_alloc_new w _))
  have hr1 : W.heap[w.heap.size + 1]? = some (.cells #[.int .i64 0, .int .i64 0, .int .i64 0, .slice none 0 0, .int .i64 0, .int .u32 0, .int .i64 0, .int .i64 0, .int .i64 0, .bool false, .int .i64 0, .slice none 0 0] 36 (0, 0)) := by rw [hW]; exact past_at _ (last_at _ (by simp))
  have hr2 : W.heap[w.heap.size + 2]? = some (.cells #[.bool false, .int .i64 0, .int .i64 0] 38 (0, 0)) := by rw [hW]; exact last_at _ (by simp)
  have HRES : Hid (∀ w', Fr (fun k => k = w.heap.size) W w' → w'.heap[w.heap.size + 1]? = some (.cells #[.int .i64 0, .int .i64 0, .int .i64 0, .slice none 0 0, .int .i64 0, .int .u32 0, .int .i64 0, .int .i64 0, .int .i64 0, .bool false, .int .i64 0, .slice none 0 0] 36 (0, 0)) ∧ w'.heap[w.heap.size + 2]? = some (.cells #[.bool false, .int .i64 0, .int .i64 0] 38 (0, 0))) := fun w' hf => ⟨(hf.block _ (lt_of_heap hr1) (by omega)).trans hr1, (hf.block _ (lt_of_heap hr2) (by omega)).trans hr2⟩
  have HS : Hid (∀ w', Fr (fun k => k = w.heap.size) W w' → SrcAt w' a b) := fun w' hf => src_ge hs ((HFW.out.mono (T := fun k => w.heap.size ≤ k) (fun _ _ e => e.elim)).trans (hf.mono (fun k _ e => by omega)))
  have HL : Hid (b.length = len) := hl
  obtain ⟨c0, c1, c2, c3, c4, c5, c6, c7, c8, c9, c10, c11⟩ := cells12 A0.out
  have F0 : Hid (Fr (fun k => k = w.heap.size) W W) := Fr.refl _ _
  have KN : Hid (∀ w', Fr (fun k => k = w.heap.size) W w' → Calls Try.prog 49 #[.slice a len cap, .int .i64 0] w' fun e w2 => e = .returned (.tuple #[.int .i64 ((num (b.take 4) % 2147483648 : Nat) : Int), .int .i64 4, .int .i64 0]) ∧ w' = w2) := fun w' hf => by
    have h := RU31 a len cap ((0 : Nat) : Int) w' b (HS.out w' hf) hl (by omega)
    rw [read_at 4 0 b (by omega)] at h
    refine h.mono ?_
    rintro e w2 ⟨he, rfl⟩
    exact ⟨he, rfl⟩
  obtain ⟨N, hN⟩ : ∃ N, num (b.take 4) % 2147483648 = N := ⟨_, rfl⟩
  rw [hN] at KN
  have z1 : W.frozen? ⟨w.heap.size, 6, none⟩ = false := frozen_of_heap A0.out
  have A1 : Hid ((W.setCell ⟨w.heap.size, 6, none⟩ (.int .i64 (N : Int))).heap[w.heap.size]? = some (.cells #[.int .i64 5, .int .i64 fl, .int .i64 st, .slice none 0 0, .int .i64 (x : Int), .int .u32 0, .int .i64 (N : Int), .int .i64 0, .int .i64 0, .bool false, .int .i64 0, .slice none 0 0] 36 (0, 0))) := block_set A0.out
  have F1 : Hid (Fr (fun k => k = w.heap.size) W (W.setCell ⟨w.heap.size, 6, none⟩ (.int .i64 (N : Int)))) := F0.out.setB _ _
  try rw [hN]
  obtain ⟨dp, hcut, hcs⟩ := cutF a len cap 4 b hl hc (by omega)
  obtain ⟨l1, hl1⟩ : ∃ l1, len - 4 = l1 := ⟨_, rfl⟩
  obtain ⟨cp1, hcp1⟩ : ∃ cp1, cap - 4 = cp1 := ⟨_, rfl⟩
  have hcut' : ∀ w, (Instr.slice 31 (.slice a len cap) (some (.int .i64 4)) none none).run Try.prog w = .ok (.slice dp l1 cp1) w := by rw [← hl1, ← hcp1]; exact hcut
  have HCS : Hid (∀ w, SrcAt w a b → SrcAt w dp (b.drop 4)) := hcs
  have HL1 : Hid ((b.drop 4).length = l1) := by show _ = _; rw [List.length_drop, hl, hl1]
  have hl1b : l1 ≤ 16777215 := by omega
  clear hcut hcs hl1 hcp1
  obtain ⟨j, J1, J2, J3, J4⟩ := info5
  have J1 : Hid _ := J1
  have J2 : Hid _ := J2
  have J3 : Hid _ := J3
  have J4 : Hid _ := J4
  clear hs hl hr1 hr2
  go_enter Try.func37, Try.ntmps37
  go_wp2_with (fail)
  rw [← hW]
  clear hW
  go_wp2_with first
    | (go_at_call 49; refine (KN.out _ F0.out).mono ?_; rintro e w' ⟨rfl, rfl⟩)
    | (refine wpList_gather (w0 := (W.setCell ⟨w.heap.size, 6, none⟩ (.int .i64 (N : Int)))) rfl (.tmp 120) (.tmp 121) 31 31 rfl j Try.underlying31 Try.underlying31 J1.out J2.out J3.out J4.out (.slice (some ⟨(W.setCell ⟨w.heap.size, 6, none⟩ (.int .i64 (N : Int))).heap.size, 0, none⟩) 0 0) [] (by go_simp) (Gath.start (Fr.refl _ _)) dp l1 cp1 (by go_simp) (b.drop 4) ((HCS.out _ (HS.out _ F1.out)).oldF ((Fr.refl _ _).alloc _)) HL1.out (by simp only [List.length_nil]; omega) ?_; intro ag ng dg wg Ng Gg Fg; have AG : Hid (wg.heap[w.heap.size]? = some (.cells #[.int .i64 5, .int .i64 fl, .int .i64 st, .slice none 0 0, .int .i64 (x : Int), .int .u32 0, .int .i64 (N : Int), .int .i64 0, .int .i64 0, .bool false, .int .i64 0, .slice none 0 0] 36 (0, 0))) := (Gg.2.2.block _ (lt_of_heap A1.out) id).trans A1.out; have FG : Hid (Fr (fun k => k = w.heap.size) W wg) := F1.out.trans (Gg.2.2.mono (fun _ _ e => e.elim)); clear c0 c1 c2 c3 c4 c5 c6 c7 c8 c9 c10 c11; obtain ⟨c0, c1, c2, c3, c4, c5, c6, c7, c8, c9, c10, c11⟩ := cells12 AG.out; have zg : wg.frozen? ⟨w.heap.size, 3, none⟩ = false := frozen_of_heap AG.out; have FG2 : Hid (Fr (fun k => k = w.heap.size) W (wg.setCell ⟨w.heap.size, 3, none⟩ (.slice ag ng dg))) := FG.out.setB _ _)
    | (refine wpList_storeB rfl 36 (.tmp 4) (.tmp 124) rfl (w.heap.size + 1) #[.int .i64 0, .int .i64 0, .int .i64 0, .slice none 0 0, .int .i64 0, .int .u32 0, .int .i64 0, .int .i64 0, .int .i64 0, .bool false, .int .i64 0, .slice none 0 0] #[.int .i64 5, .int .i64 fl, .int .i64 st, .slice ag ng dg, .int .i64 (x : Int), .int .u32 0, .int .i64 (N : Int), .int .i64 0, .int .i64 0, .bool false, .int .i64 0, .slice none 0 0] 36 rfl rfl (HRES.out _ FG2.out).1 rfl (by kernel_rfl) (by simp [Value.oneCell']) ?_; intro w4 H4 F4)
    | (refine wpList_storeB rfl 38 (.tmp 5) (.tmp 125) rfl (w.heap.size + 2) #[.bool false, .int .i64 0, .int .i64 0] #[.bool false, .int .i64 0, .int .i64 0] 38 rfl rfl ((F4.out.block _ (lt_of_heap (HRES.out _ FG2.out).2) (by omega)).trans (HRES.out _ FG2.out).2) rfl (by kernel_rfl) (by simp [Value.oneCell']) ?_; intro w5 H5 F5)
  obtain ⟨r0, r1, r2, r3, r4, r5, r6, r7, r8, r9, r10, r11⟩ := cells12 ((F5.out.block _ (lt_of_heap H4.out) (by omega)).trans H4.out)
  obtain ⟨s0, s1, s2⟩ := cells3 H5.out
  have FALL : Fr (fun k => k = w.heap.size + 1 ∨ k = w.heap.size + 2) (wg.setCell ⟨w.heap.size, 3, none⟩ (.slice ag ng dg)) w5 := (F4.out.mono (fun _ _ e => .inl e)).trans (F5.out.mono (fun _ _ e => .inr e))
  refine bodyPost_ret (v := .tuple #[.agg #[.int .i64 5, .int .i64 fl, .int .i64 st, .slice ag ng dg, .int .i64 (x : Int), .int .u32 0, .int .i64 (N : Int), .int .i64 0, .int .i64 0, .bool false, .int .i64 0, .slice none 0 0], .agg #[.bool false, .int .i64 0, .int .i64 0]]) (by simp [results, Try.results37, go_sem, r0, r1, r2, r3, r4, r5, r6, r7, r8, r9, r10, r11, s0, s1, s2]) rfl ?_
  have FEND : Fr (fun _ => False) w w5 := ((((HFW.out.mono (T := fun k => w.heap.size ≤ k) (fun _ _ e => e.elim)).trans (FG2.out.mono (fun k _ e => by omega))).trans (FALL.mono (fun k _ e => by omega)))).mono (fun k hk e => by omega)
  have hge : ∀ ad, ag = some ad → w.heap.size + 3 ≤ ad.block := fun ad e => Nat.le_trans (by have h1 := F1.out.size; have h2 := lt_of_heap (HRES.out _ F0.out).2; omega) (Gg.new ad e)
  have hng : ng = (b.drop 4).length := by rw [Ng.out, HL1.out]; simp
  refine ⟨ag, dg, none, 0, ?_, ?_, SetsAt.nil _, (fun ad e _ => by have := hge ad e; omega), (fun ad e => by cases e), FEND⟩
  · rw [hng]; rfl
  · have hsrc : SrcAt wg ag (b.drop 4) := own_src Gg.1
    refine (hsrc.fr ((Fr.refl (fun k => k = w.heap.size) wg).setB 3 (.slice ag ng dg)) (fun ad e _ e2 => by have := hge ad e; omega)).fr FALL (fun ad e _ e2 => by have := hge ad e; omega)

theorem fd_7 (fl st : Int) (x : Nat) (a : Option Addr) (len cap : Nat) (b : List UInt8) (w : World) (h0 : 0 ≤ fl) (h1 : fl ≤ 255) (hs : SrcAt w a b) (hl : b.length = len) (hc : len ≤ cap) (hm : len ≤ 16777215) (hn : 8 ≤ len) :
    Calls Try.prog 37 #[.agg #[.int .i64 7, .int .i64 fl, .int .i64 st, .slice none 0 0, .int .i64 (x : Int), .int .u32 0, .int .i64 0, .int .i64 0, .int .i64 0, .bool false, .int .i64 0, .slice none 0 0], .slice a len cap] w fun e w' => RdAs w (⟨7, fl, st, b.drop 8, x, (num ((b.drop 4).take 4)), ((num (b.take 4) % 2147483648 : Nat) : Int), 0, 0, false, 0, []⟩, ⟨false, 0, 0⟩) e w' := by
  obtain ⟨W, hW⟩ : ∃ W, W = ((w.alloc (.cells #[.int .i64 7, .int .i64 fl, .int .i64 st, .slice none 0 0, .int .i64 (x : Int), .int .u32 0, .int .i64 0, .int .i64 0, .int .i64 0, .bool false, .int .i64 0, .slice none 0 0] 36)).alloc (.cells #[.int .i64 0, .int .i64 0, .int .i64 0, .slice none 0 0, .int .i64 0, .int .u32 0, .int .i64 0, .int .i64 0, .int .i64 0, .bool false, .int .i64 0, .slice none 0 0] 36)).alloc (.cells #[.bool false, .int .i64 0, .int .i64 0] 38) := ⟨_, rfl⟩
  have HFW : Hid (Fr (fun _ => False) w W) := by rw [hW]; exact (((Fr.refl _ _).alloc _).alloc _).alloc _
  have A0 : Hid (W.heap[w.heap.size]? = some (.cells #[.int .i64 7, .int .i64 fl, .int .i64 st, .slice none 0 0, .int .i64 (x : Int), .int .u32 0, .int .i64 0, .int .i64 0, .int .i64 0, .bool false, .int .i64 0, .slice none 0 0] 36 (0, 0))) := by rw [hW]; exact past_at _ (past_at _ (heap_alloc_new w _))
  have hr1 : W.heap[w.heap.size + 1]? = some (.cells #[.int .i64 0, .int .i64 0, .int .i64 0, .slice none 0 0, .int .i64 0, .int .u32 0, .int .i64 0, .int .i64 0, .int .i64 0, .bool false, .int .i64 0, .slice none 0 0] 36 (0, 0)) := by rw [hW]; exact past_at _ (last_at _ (by simp))
  have hr2 : W.heap[w.heap.size + 2]? = some (.cells #[.bool false, .int .i64 0, .int .i64 0] 38 (0, 0)) := by rw [hW]; exact last_at _ (by simp)
  have HRES : Hid (∀ w', Fr (fun k => k = w.heap.size) W w' → w'.heap[w.heap.size + 1]? = some (.cells #[.int .i64 0, .int .i64 0, .int .i64 0, .slice none 0 0, .int .i64 0, .int .u32 0, .int .i64 0, .int .i64 0, .int .i64 0, .bool false, .int .i64 0, .slice none 0 0] 36 (0, 0)) ∧ w'.heap[w.heap.size + 2]? = some (.cells #[.bool false, .int .i64 0, .int .i64 0] 38 (0, 0))) := fun w' hf => ⟨(hf.block _ (lt_of_heap hr1) (by omega)).trans hr1, (hf.block _ (lt_of_heap hr2) (by omega)).trans hr2⟩
  have HS : Hid (∀ w', Fr (fun k => k = w.heap.size) W w' → SrcAt w' a b) := fun w' hf => src_ge hs ((HFW.out.mono (T := fun k => w.heap.size ≤ k) (fun _ _ e => e.elim)).trans (hf.mono (fun k _ e => by omega)))
  have HL : Hid (b.length = len) := hl
  obtain ⟨c0, c1, c2, c3, c4, c5, c6, c7, c8, c9, c10, c11⟩ := cells12 A0.out
  have F0 : Hid (Fr (fun k => k = w.heap.size) W W) := Fr.refl _ _
  have KN : Hid (∀ w', Fr (fun k => k = w.heap.size) W w' → Calls Try.prog 49 #[.slice a len cap, .int .i64 0] w' fun e w2 => e = .returned (.tuple #[.int .i64 ((num (b.take 4) % 2147483648 : Nat) : Int), .int .i64 4, .int .i64 0]) ∧ w' = w2) := fun w' hf => by
    have h := RU31 a len cap ((0 : Nat) : Int) w' b (HS.out w' hf) hl (by omega)
    rw [read_at 4 0 b (by omega)] at h
    refine h.mono ?_
    rintro e w2 ⟨he, rfl⟩
    exact ⟨he, rfl⟩
  obtain ⟨N, hN⟩ : ∃ N, num (b.take 4) % 2147483648 = N := ⟨_, rfl⟩
  rw [hN] at KN
  have z1 : W.frozen? ⟨w.heap.size, 6, none⟩ = false := frozen_of_heap A0.out
  have A1 : Hid ((W.setCell ⟨w.heap.size, 6, none⟩ (.int .i64 (N : Int))).heap[w.heap.size]? = some (.cells #[.int .i64 7, .int .i64 fl, .int .i64 st, .slice none 0 0, .int .i64 (x : Int), .int .u32 0, .int .i64 (N : Int), .int .i64 0, .int .i64 0, .bool false, .int .i64 0, .slice none 0 0] 36 (0, 0))) := block_set A0.out
  have F1 : Hid (Fr (fun k => k = w.heap.size) W (W.setCell ⟨w.heap.size, 6, none⟩ (.int .i64 (N : Int)))) := F0.out.setB _ _
  have KM : Hid (∀ w', Fr (fun k => k = w.heap.size) W w' → Calls Try.prog 52 #[.slice a len cap, .int .i64 4] w' fun e w2 => e = .returned (.tuple #[.int .u32 ((num ((b.drop 4).take 4) : Nat) : Int), .int .i64 8, .int .i64 0]) ∧ w' = w2) := fun w' hf => by
    have h := RU32 a len cap ((4 : Nat) : Int) w' b (HS.out w' hf) hl (by omega)
    rw [read_at 4 4 b (by omega)] at h
    refine h.mono ?_
    rintro e w2 ⟨he, rfl⟩
    exact ⟨he, rfl⟩
  obtain ⟨M, hM⟩ : ∃ M, num ((b.drop 4).take 4) = M := ⟨_, rfl⟩
  rw [hM] at KM
  have z2 : (W.setCell ⟨w.heap.size, 6, none⟩ (.int .i64 (N : Int))).frozen? ⟨w.heap.size, 5, none⟩ = false := frozen_of_heap A1.out
  have A2 : Hid (((W.setCell ⟨w.heap.size, 6, none⟩ (.int .i64 (N : Int))).setCell ⟨w.heap.size, 5, none⟩ (.int .u32 (M : Int))).heap[w.heap.size]? = some (.cells #[.int .i64 7, .int .i64 fl, .int .i64 st, .slice none 0 0, .int .i64 (x : Int), .int .u32 (M : Nat), .int .i64 (N : Int), .int .i64 0, .int .i64 0, .bool false, .int .i64 0, .slice none 0 0] 36 (0, 0))) := block_set A1.out
  have F2 : Hid (Fr (fun k => k = w.heap.size) W ((W.setCell ⟨w.heap.size, 6, none⟩ (.int .i64 (N : Int))).setCell ⟨w.heap.size, 5, none⟩ (.int .u32 (M : Int)))) := F1.out.setB _ _
  try rw [hN]
  try rw [hM]
  obtain ⟨dp, hcut, hcs⟩ := cutF a len cap 8 b hl hc (by omega)
  obtain ⟨l1, hl1⟩ : ∃ l1, len - 8 = l1 := ⟨_, rfl⟩
  obtain ⟨cp1, hcp1⟩ : ∃ cp1, cap - 8 = cp1 := ⟨_, rfl⟩
  have hcut' : ∀ w, (Instr.slice 31 (.slice a len cap) (some (.int .i64 8)) none none).run Try.prog w = .ok (.slice dp l1 cp1) w := by rw [← hl1, ← hcp1]; exact hcut
  have HCS : Hid (∀ w, SrcAt w a b → SrcAt w dp (b.drop 8)) := hcs
  have HL1 : Hid ((b.drop 8).length = l1) := by show _ = _; rw [List.length_drop, hl, hl1]
  have hl1b : l1 ≤ 16777215 := by omega
  clear hcut hcs hl1 hcp1
  obtain ⟨j, J1, J2, J3, J4⟩ := info5
  have J1 : Hid _ := J1
  have J2 : Hid _ := J2
  have J3 : Hid _ := J3
  have J4 : Hid _ := J4
  clear hs hl hr1 hr2
  go_enter Try.func37, Try.ntmps37
  go_wp2_with (fail)
  rw [← hW]
  clear hW
  go_wp2_with first
    | (go_at_call 49; refine (KN.out _ F0.out).mono ?_; rintro e w' ⟨rfl, rfl⟩)
    | (go_at_call 52; refine (KM.out _ F1.out).mono ?_; rintro e w' ⟨rfl, rfl⟩)
    | (refine wpList_gather (w0 := ((W.setCell ⟨w.heap.size, 6, none⟩ (.int .i64 (N : Int))).setCell ⟨w.heap.size, 5, none⟩ (.int .u32 (M : Int)))) rfl (.tmp 120) (.tmp 121) 31 31 rfl j Try.underlying31 Try.underlying31 J1.out J2.out J3.out J4.out (.slice (some ⟨((W.setCell ⟨w.heap.size, 6, none⟩ (.int .i64 (N : Int))).setCell ⟨w.heap.size, 5, none⟩ (.int .u32 (M : Int))).heap.size, 0, none⟩) 0 0) [] (by go_simp) (Gath.start (Fr.refl _ _)) dp l1 cp1 (by go_simp) (b.drop 8) ((HCS.out _ (HS.out _ F2.out)).oldF ((Fr.refl _ _).alloc _)) HL1.out (by simp only [List.length_nil]; omega) ?_; intro ag ng dg wg Ng Gg Fg; have AG : Hid (wg.heap[w.heap.size]? = some (.cells #[.int .i64 7, .int .i64 fl, .int .i64 st, .slice none 0 0, .int .i64 (x : Int), .int .u32 (M : Nat), .int .i64 (N : Int), .int .i64 0, .int .i64 0, .bool false, .int .i64 0, .slice none 0 0] 36 (0, 0))) := (Gg.2.2.block _ (lt_of_heap A2.out) id).trans A2.out; have FG : Hid (Fr (fun k => k = w.heap.size) W wg) := F2.out.trans (Gg.2.2.mono (fun _ _ e => e.elim)); clear c0 c1 c2 c3 c4 c5 c6 c7 c8 c9 c10 c11; obtain ⟨c0, c1, c2, c3, c4, c5, c6, c7, c8, c9, c10, c11⟩ := cells12 AG.out; have zg : wg.frozen? ⟨w.heap.size, 3, none⟩ = false := frozen_of_heap AG.out; have FG2 : Hid (Fr (fun k => k = w.heap.size) W (wg.setCell ⟨w.heap.size, 3, none⟩ (.slice ag ng dg))) := FG.out.setB _ _)
    | (refine wpList_storeB rfl 36 (.tmp 4) (.tmp 124) rfl (w.heap.size + 1) #[.int .i64 0, .int .i64 0, .int .i64 0, .slice none 0 0, .int .i64 0, .int .u32 0, .int .i64 0, .int .i64 0, .int .i64 0, .bool false, .int .i64 0, .slice none 0 0] #[.int .i64 7, .int .i64 fl, .int .i64 st, .slice ag ng dg, .int .i64 (x : Int), .int .u32 (M : Nat), .int .i64 (N : Int), .int .i64 0, .int .i64 0, .bool false, .int .i64 0, .slice none 0 0] 36 rfl rfl (HRES.out _ FG2.out).1 rfl (by kernel_rfl) (by simp [Value.oneCell']) ?_; intro w4 H4 F4)
    | (refine wpList_storeB rfl 38 (.tmp 5) (.tmp 125) rfl (w.heap.size + 2) #[.bool false, .int .i64 0, .int .i64 0] #[.bool false, .int .i64 0, .int .i64 0] 38 rfl rfl ((F4.out.block _ (lt_of_heap (HRES.out _ FG2.out).2) (by omega)).trans (HRES.out _ FG2.out).2) rfl (by kernel_rfl) (by simp [Value.oneCell']) ?_; intro w5 H5 F5)
  obtain ⟨r0, r1, r2, r3, r4, r5, r6, r7, r8, r9, r10, r11⟩ := cells12 ((F5.out.block _ (lt_of_heap H4.out) (by omega)).trans H4.out)
  obtain ⟨s0, s1, s2⟩ := cells3 H5.out
  have FALL : Fr (fun k => k = w.heap.size + 1 ∨ k = w.heap.size + 2) (wg.setCell ⟨w.heap.size, 3, none⟩ (.slice ag ng dg)) w5 := (F4.out.mono (fun _ _ e => .inl e)).trans (F5.out.mono (fun _ _ e => .inr e))
  refine bodyPost_ret (v := .tuple #[.agg #[.int .i64 7, .int .i64 fl, .int .i64 st, .slice ag ng dg, .int .i64 (x : Int), .int .u32 (M : Nat), .int .i64 (N : Int), .int .i64 0, .int .i64 0, .bool false, .int .i64 0, .slice none 0 0], .agg #[.bool false, .int .i64 0, .int .i64 0]]) (by simp [results, Try.results37, go_sem, r0, r1, r2, r3, r4, r5, r6, r7, r8, r9, r10, r11, s0, s1, s2]) rfl ?_
  have FEND : Fr (fun _ => False) w w5 := ((((HFW.out.mono (T := fun k => w.heap.size ≤ k) (fun _ _ e => e.elim)).trans (FG2.out.mono (fun k _ e => by omega))).trans (FALL.mono (fun k _ e => by omega)))).mono (fun k hk e => by omega)
  have hge : ∀ ad, ag = some ad → w.heap.size + 3 ≤ ad.block := fun ad e => Nat.le_trans (by have h1 := F2.out.size; have h2 := lt_of_heap (HRES.out _ F0.out).2; omega) (Gg.new ad e)
  have hng : ng = (b.drop 8).length := by rw [Ng.out, HL1.out]; simp
  refine ⟨ag, dg, none, 0, ?_, ?_, SetsAt.nil _, (fun ad e _ => by have := hge ad e; omega), (fun ad e => by cases e), FEND⟩
  · rw [hng]; rfl
  · have hsrc : SrcAt wg ag (b.drop 8) := own_src Gg.1
    refine (hsrc.fr ((Fr.refl (fun k => k = w.heap.size) wg).setB 3 (.slice ag ng dg)) (fun ad e _ e2 => by have := hge ad e; omega)).fr FALL (fun ad e _ e2 => by have := hge ad e; omega)

theorem fd_1q (fl st : Int) (x : Nat) (a : Option Addr) (len cap : Nat) (b : List UInt8) (w : World) (h0 : 0 ≤ fl) (h1 : fl ≤ 255) (hs : SrcAt w a b) (hl : b.length = len) (hc : len ≤ cap) (hm : len ≤ 16777215) (hn : 5 ≤ len) (hq : has fl 32 = true) :
    Calls Try.prog 37 #[.agg #[.int .i64 1, .int .i64 fl, .int .i64 st, .slice none 0 0, .int .i64 (x : Int), .int .u32 0, .int .i64 0, .int .i64 0, .int .i64 0, .bool false, .int .i64 0, .slice none 0 0], .slice a len cap] w fun e w' => RdAs w ({ (rdP 2 ⟨1, fl, st, [], x, 0, 0, 0, 0, false, 0, []⟩ b) with X := b.drop 5 }, ⟨false, 0, 0⟩) e w' := by
  obtain ⟨W, hW⟩ : ∃ W, W = ((w.alloc (.cells #[.int .i64 1, .int .i64 fl, .int .i64 st, .slice none 0 0, .int .i64 (x : Int), .int .u32 0, .int .i64 0, .int .i64 0, .int .i64 0, .bool false, .int .i64 0, .slice none 0 0] 36)).alloc (.cells #[.int .i64 0, .int .i64 0, .int .i64 0, .slice none 0 0, .int .i64 0, .int .u32 0, .int .i64 0, .int .i64 0, .int .i64 0, .bool false, .int .i64 0, .slice none 0 0] 36)).alloc (.cells #[.bool false, .int .i64 0, .int .i64 0] 38) := ⟨_, rfl⟩
  have HFW : Hid (Fr (fun _ => False) w W) := by rw [hW]; exact (((Fr.refl _ _).alloc _).alloc _).alloc _
  have A0 : Hid (W.heap[w.heap.size]? = some (.cells #[.int .i64 1, .int .i64 fl, .int .i64 st, .slice none 0 0, .int .i64 (x : Int), .int .u32 0, .int .i64 0, .int .i64 0, .int .i64 0, .bool false, .int .i64 0, .slice none 0 0] 36 (0, 0))) := by rw [hW]; exact past_at _ (past_at _ (heap_alloc_new w _))
  have hr1 : W.heap[w.heap.size + 1]? = some (.cells #[.int .i64 0, .int .i64 0, .int .i64 0, .slice none 0 0, .int .i64 0, .int .u32 0, .int .i64 0, .int .i64 0, .int .i64 0, .bool false, .int .i64 0, .slice none 0 0] 36 (0, 0)) := by rw [hW]; exact past_at _ (last_at _ (by simp))
  have hr2 : W.heap[w.heap.size + 2]? = some (.cells #[.bool false, .int .i64 0, .int .i64 0] 38 (0, 0)) := by rw [hW]; exact last_at _ (by simp)
  have HRES : Hid (∀ w', Fr (fun k => k = w.heap.size) W w' → w'.heap[w.heap.size + 1]? = some (.cells #[.int .i64 0, .int .i64 0, .int .i64 0, .slice none 0 0, .int .i64 0, .int .u32 0, .int .i64 0, .int .i64 0, .int .i64 0, .bool false, .int .i64 0, .slice none 0 0] 36 (0, 0)) ∧ w'.heap[w.heap.size + 2]? = some (.cells #[.bool false, .int .i64 0, .int .i64 0] 38 (0, 0))) := fun w' hf => ⟨(hf.block _ (lt_of_heap hr1) (by omega)).trans hr1, (hf.block _ (lt_of_heap hr2) (by omega)).trans hr2⟩
  have HS : Hid (∀ w', Fr (fun k => k = w.heap.size) W w' → SrcAt w' a b) := fun w' hf => src_ge hs ((HFW.out.mono (T := fun k => w.heap.size ≤ k) (fun _ _ e => e.elim)).trans (hf.mono (fun k _ e => by omega)))
  have HL : Hid (b.length = len) := hl
  obtain ⟨c0, c1, c2, c3, c4, c5, c6, c7, c8, c9, c10, c11⟩ := cells12 A0.out
  have K5 : ∀ w, Calls Try.prog 41 #[.int .i64 1, .int .i64 fl] w fun e w' => e = .returned (.bool true) ∧ w = w' := fun w => by have h := prio_in 1 fl w h0 h1; rwa [show prioB 1 fl = true by rw [← hq]; simp [prioB]] at h
  have F0 : Hid (Fr (fun k => k = w.heap.size) W W) := Fr.refl _ _
  have KP : Hid (∀ w', Fr (fun k => k = w.heap.size) W w' → Calls Try.prog 51 #[.agg #[.int .i64 1, .int .i64 fl, .int .i64 st, .slice none 0 0, .int .i64 (x : Int), .int .u32 0, .int .i64 0, .int .i64 0, .int .i64 0, .bool false, .int .i64 0, .slice none 0 0], .slice a len cap] w' fun e w2 => e = .returned (.agg #[.int .i64 1, .int .i64 fl, .int .i64 st, .slice none 0 0, .int .i64 (x : Int), .int .u32 0, .int .i64 0, .int .i64 0, .int .i64 ((num (b.take 4) % 2147483648 : Nat) : Int), .bool (decide (128 ≤ (b.getD 0 0).toNat)), .int .i64 (((b.getD 4 0).toNat : Nat) + 1), .slice none 0 0]) ∧ Fr (fun _ => False) w' w2) := fun w' hf => prior_in ⟨1, fl, st, [], x, 0, 0, 0, 0, false, 0, []⟩ none none 0 0 a len cap b w' (HS.out w' hf) hl (by omega) (by omega)
  obtain ⟨dN, hdN⟩ : ∃ dN : Int, ((num (b.take 4) % 2147483648 : Nat) : Int) = dN := ⟨_, rfl⟩
  obtain ⟨on, hon⟩ : ∃ on, decide (128 ≤ (b.getD 0 0).toNat) = on := ⟨_, rfl⟩
  obtain ⟨wN, hwN⟩ : ∃ wN : Int, ((b.getD 4 0).toNat : Int) + 1 = wN := ⟨_, rfl⟩
  rw [hdN, hon, hwN] at KP
  have hres : (rdP 2 ⟨1, fl, st, [], x, 0, 0, 0, 0, false, 0, []⟩ b) = ⟨1, fl, st, [], x, 0, 0, 0, dN, on, wN, []⟩ := by simp only [rdP, hdN, hon, hwN]; simp
  rw [hres]
  clear hdN hon hwN hres
  obtain ⟨dp, hcut, hcs⟩ := cutF a len cap 5 b hl hc (by omega)
  obtain ⟨l1, hl1⟩ : ∃ l1, len - 5 = l1 := ⟨_, rfl⟩
  obtain ⟨cp1, hcp1⟩ : ∃ cp1, cap - 5 = cp1 := ⟨_, rfl⟩
  have hcut' : ∀ w, (Instr.slice 31 (.slice a len cap) (some (.int .i64 5)) none none).run Try.prog w = .ok (.slice dp l1 cp1) w := by rw [← hl1, ← hcp1]; exact hcut
  have HCS : Hid (∀ w, SrcAt w a b → SrcAt w dp (b.drop 5)) := hcs
  have HL1 : Hid ((b.drop 5).length = l1) := by show _ = _; rw [List.length_drop, hl, hl1]
  have hl1b : l1 ≤ 16777215 := by omega
  clear hcut hcs hl1 hcp1
  obtain ⟨j, J1, J2, J3, J4⟩ := info5
  have J1 : Hid _ := J1
  have J2 : Hid _ := J2
  have J3 : Hid _ := J3
  have J4 : Hid _ := J4
  clear hs hl hr1 hr2
  go_enter Try.func37, Try.ntmps37
  go_wp2_with (fail)
  rw [← hW]
  clear hW
  go_wp2_with first
    | (go_at_call 41; refine (K5 _).mono ?_; rintro e w' ⟨rfl, rfl⟩)
    | (go_at_call 51; refine (KP.out _ F0.out).mono ?_; rintro e wp ⟨rfl, hfp⟩; have FP : Hid (Fr (fun k => k = w.heap.size) W wp) := hfp.mono (fun _ _ e => e.elim); have AP : Hid (wp.heap[w.heap.size]? = some (.cells #[.int .i64 1, .int .i64 fl, .int .i64 st, .slice none 0 0, .int .i64 (x : Int), .int .u32 0, .int .i64 0, .int .i64 0, .int .i64 0, .bool false, .int .i64 0, .slice none 0 0] 36 (0, 0))) := (hfp.block _ (lt_of_heap A0.out) id).trans A0.out; clear hfp)
    | (refine wpList_storeB rfl 36 (.tmp 2) (.tmp 117) rfl w.heap.size #[.int .i64 1, .int .i64 fl, .int .i64 st, .slice none 0 0, .int .i64 (x : Int), .int .u32 0, .int .i64 0, .int .i64 0, .int .i64 0, .bool false, .int .i64 0, .slice none 0 0] #[.int .i64 1, .int .i64 fl, .int .i64 st, .slice none 0 0, .int .i64 (x : Int), .int .u32 0, .int .i64 0, .int .i64 0, .int .i64 dN, .bool on, .int .i64 wN, .slice none 0 0] 36 rfl rfl AP.out rfl (by kernel_rfl) (by simp [Value.oneCell']) ?_; intro wq AQ FQ0; have FQ : Hid (Fr (fun k => k = w.heap.size) W wq) := FP.out.trans FQ0.out; clear FQ0 c0 c1 c2 c3 c4 c5 c6 c7 c8 c9 c10 c11; obtain ⟨c0, c1, c2, c3, c4, c5, c6, c7, c8, c9, c10, c11⟩ := cells12 AQ.out)
    | (refine wpList_gather (w0 := wq) rfl (.tmp 120) (.tmp 121) 31 31 rfl j Try.underlying31 Try.underlying31 J1.out J2.out J3.out J4.out (.slice (some ⟨wq.heap.size, 0, none⟩) 0 0) [] (by go_simp) (Gath.start (Fr.refl _ _)) dp l1 cp1 (by go_simp) (b.drop 5) ((HCS.out _ (HS.out _ FQ.out)).oldF ((Fr.refl _ _).alloc _)) HL1.out (by simp only [List.length_nil]; omega) ?_; intro ag ng dg wg Ng Gg Fg; have AG : Hid (wg.heap[w.heap.size]? = some (.cells #[.int .i64 1, .int .i64 fl, .int .i64 st, .slice none 0 0, .int .i64 (x : Int), .int .u32 0, .int .i64 0, .int .i64 0, .int .i64 dN, .bool on, .int .i64 wN, .slice none 0 0] 36 (0, 0))) := (Gg.2.2.block _ (lt_of_heap AQ.out) id).trans AQ.out; have FG : Hid (Fr (fun k => k = w.heap.size) W wg) := FQ.out.trans (Gg.2.2.mono (fun _ _ e => e.elim)); clear c0 c1 c2 c3 c4 c5 c6 c7 c8 c9 c10 c11; obtain ⟨c0, c1, c2, c3, c4, c5, c6, c7, c8, c9, c10, c11⟩ := cells12 AG.out; have zg : wg.frozen? ⟨w.heap.size, 3, none⟩ = false := frozen_of_heap AG.out; have FG2 : Hid (Fr (fun k => k = w.heap.size) W (wg.setCell ⟨w.heap.size, 3, none⟩ (.slice ag ng dg))) := FG.out.setB _ _)
    | (refine wpList_storeB rfl 36 (.tmp 4) (.tmp 124) rfl (w.heap.size + 1) #[.int .i64 0, .int .i64 0, .int .i64 0, .slice none 0 0, .int .i64 0, .int .u32 0, .int .i64 0, .int .i64 0, .int .i64 0, .bool false, .int .i64 0, .slice none 0 0] #[.int .i64 1, .int .i64 fl, .int .i64 st, .slice ag ng dg, .int .i64 (x : Int), .int .u32 0, .int .i64 0, .int .i64 0, .int .i64 dN, .bool on, .int .i64 wN, .slice none 0 0] 36 rfl rfl (HRES.out _ FG2.out).1 rfl (by kernel_rfl) (by simp [Value.oneCell']) ?_; intro w4 H4 F4)
    | (refine wpList_storeB rfl 38 (.tmp 5) (.tmp 125) rfl (w.heap.size + 2) #[.bool false, .int .i64 0, .int .i64 0] #[.bool false, .int .i64 0, .int .i64 0] 38 rfl rfl ((F4.out.block _ (lt_of_heap (HRES.out _ FG2.out).2) (by omega)).trans (HRES.out _ FG2.out).2) rfl (by kernel_rfl) (by simp [Value.oneCell']) ?_; intro w5 H5 F5)
  obtain ⟨r0, r1, r2, r3, r4, r5, r6, r7, r8, r9, r10, r11⟩ := cells12 ((F5.out.block _ (lt_of_heap H4.out) (by omega)).trans H4.out)
  obtain ⟨s0, s1, s2⟩ := cells3 H5.out
  have FALL : Fr (fun k => k = w.heap.size + 1 ∨ k = w.heap.size + 2) (wg.setCell ⟨w.heap.size, 3, none⟩ (.slice ag ng dg)) w5 := (F4.out.mono (fun _ _ e => .inl e)).trans (F5.out.mono (fun _ _ e => .inr e))
  refine bodyPost_ret (v := .tuple #[.agg #[.int .i64 1, .int .i64 fl, .int .i64 st, .slice ag ng dg, .int .i64 (x : Int), .int .u32 0, .int .i64 0, .int .i64 0, .int .i64 dN, .bool on, .int .i64 wN, .slice none 0 0], .agg #[.bool false, .int .i64 0, .int .i64 0]]) (by simp [results, Try.results37, go_sem, r0, r1, r2, r3, r4, r5, r6, r7, r8, r9, r10, r11, s0, s1, s2]) rfl ?_
  have FEND : Fr (fun _ => False) w w5 := ((((HFW.out.mono (T := fun k => w.heap.size ≤ k) (fun _ _ e => e.elim)).trans (FG2.out.mono (fun k _ e => by omega))).trans (FALL.mono (fun k _ e => by omega)))).mono (fun k hk e => by omega)
  have hge : ∀ ad, ag = some ad → w.heap.size + 3 ≤ ad.block := fun ad e => Nat.le_trans (by have h1 := FQ.out.size; have h2 := lt_of_heap (HRES.out _ F0.out).2; omega) (Gg.new ad e)
  have hng : ng = (b.drop 5).length := by rw [Ng.out, HL1.out]; simp
  refine ⟨ag, dg, none, 0, ?_, ?_, SetsAt.nil _, (fun ad e _ => by have := hge ad e; omega), (fun ad e => by cases e), FEND⟩
  · rw [hng]; rfl
  · have hsrc : SrcAt wg ag (b.drop 5) := own_src Gg.1
    refine (hsrc.fr ((Fr.refl (fun k => k = w.heap.size) wg).setB 3 (.slice ag ng dg)) (fun ad e _ e2 => by have := hge ad e; omega)).fr FALL (fun ad e _ e2 => by have := hge ad e; omega)

end Go.Proofs.Ytikaefjhmgcidaa
