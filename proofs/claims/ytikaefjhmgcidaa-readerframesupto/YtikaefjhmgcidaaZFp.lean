/- Contract of the program's Parse. -/
import Derived.Test.YtikaefjhmgcidaaZFo
namespace Go.Proofs.Ytikaefjhmgcidaa
open Go.RowKit
set_option linter.unusedVariables false
set_option maxRecDepth 100000
set_option maxHeartbeats 4000000

/-- What Parse answers. -/
def ParsedAs (w : World) (o : Fra × Nat × Flt × Int) (e : Ending) (w' : World) : Prop := ∃ p cp q cq, e = .returned (.tuple #[.agg #[.int .i64 o.1.k, .int .i64 o.1.fl, .int .i64 o.1.st, .slice p o.1.X.length cp, .int .i64 o.1.pad, .int .u32 o.1.code, .int .i64 o.1.last, .int .i64 o.1.inc, .int .i64 o.1.dep, .bool o.1.only, .int .i64 o.1.wt, .slice q o.1.Y.length cq], .int .i64 o.2.1, .agg #[.bool o.2.2.1.is, .int .i64 o.2.2.1.st, .int .i64 o.2.2.1.code], .int .i64 o.2.2.2]) ∧ SrcAt w' p o.1.X ∧ SetsAt w' q cq o.1.Y ∧ Fr (fun _ => False) w w'

/-- What Parse answers; and payload and settings lie in memory that was not there. -/
def ParsedNew (w : World) (o : Fra × Nat × Flt × Int) (e : Ending) (w' : World) : Prop := ∃ p cp q cq, e = .returned (.tuple #[.agg #[.int .i64 o.1.k, .int .i64 o.1.fl, .int .i64 o.1.st, .slice p o.1.X.length cp, .int .i64 o.1.pad, .int .u32 o.1.code, .int .i64 o.1.last, .int .i64 o.1.inc, .int .i64 o.1.dep, .bool o.1.only, .int .i64 o.1.wt, .slice q o.1.Y.length cq], .int .i64 o.2.1, .agg #[.bool o.2.2.1.is, .int .i64 o.2.2.1.st, .int .i64 o.2.2.1.code], .int .i64 o.2.2.2]) ∧ SrcAt w' p o.1.X ∧ SetsAt w' q cq o.1.Y ∧ Fr (fun _ => False) w w' ∧ (∀ ad, p = some ad → 0 < o.1.X.length → w.heap.size ≤ ad.block) ∧ (∀ ad, q = some ad → 0 < o.1.Y.length → w.heap.size ≤ ad.block)

theorem num_take (n : Nat) (B : List UInt8) (h : n ≤ 4) : num (B.take n) < 4294967296 := by
  have h1 := num_small n B
  have h2 : 256 ^ n ≤ 256 ^ 4 := Nat.pow_le_pow_right (by omega) h
  omega
theorem num3 (B : List UInt8) : num (B.take 3) < 16777216 := num_small 3 B

theorem Parse_new (a : Option Addr) (len cap : Nat) (B : List UInt8) (most : Int) (w : World) (hs : SrcAt w a B) (hl : B.length = len) (hc : len ≤ cap) (hm : len ≤ 9223372036854775807) (hmost : (Lit.int .i64 most).wf = true) :
    Calls Try.prog 47 #[.slice a len cap, .int .i64 most] w fun e w' => ParsedNew w (parseO B most) e w' := by
  obtain ⟨W, hW⟩ : ∃ W, W = (w.alloc (.cells #[.int .i64 0, .int .i64 0, .int .i64 0, .slice none 0 0, .int .i64 0, .int .u32 0, .int .i64 0, .int .i64 0, .int .i64 0, .bool false, .int .i64 0, .slice none 0 0] 36)).alloc (.cells #[.bool false, .int .i64 0, .int .i64 0] 38) := ⟨_, rfl⟩
  have HFW : Hid (Fr (fun _ => False) w W) := by rw [hW]; exact ((Fr.refl _ _).alloc _).alloc _
  have hr1 : W.heap[w.heap.size]? = some (.cells #[.int .i64 0, .int .i64 0, .int .i64 0, .slice none 0 0, .int .i64 0, .int .u32 0, .int .i64 0, .int .i64 0, .int .i64 0, .bool false, .int .i64 0, .slice none 0 0] 36 (0, 0)) := by rw [hW]; exact past_at _ (heap_alloc_new w _)
  have hr2 : W.heap[w.heap.size + 1]? = some (.cells #[.bool false, .int .i64 0, .int .i64 0] 38 (0, 0)) := by rw [hW]; exact last_at _ (by simp)
  have HRES : Hid (∀ w', Fr (fun _ => False) W w' → w'.heap[w.heap.size]? = some (.cells #[.int .i64 0, .int .i64 0, .int .i64 0, .slice none 0 0, .int .i64 0, .int .u32 0, .int .i64 0, .int .i64 0, .int .i64 0, .bool false, .int .i64 0, .slice none 0 0] 36 (0, 0)) ∧ w'.heap[w.heap.size + 1]? = some (.cells #[.bool false, .int .i64 0, .int .i64 0] 38 (0, 0))) := fun w' hf => ⟨(hf.block _ (lt_of_heap hr1) id).trans hr1, (hf.block _ (lt_of_heap hr2) id).trans hr2⟩
  have HEND : Hid (∀ (bad : Flt) (n : Nat) (er : Int) (w1 w5 w6 : World), Fr (fun _ => False) W w1 → w5.heap[w.heap.size]? = some (.cells #[.int .i64 0, .int .i64 0, .int .i64 0, .slice none 0 0, .int .i64 0, .int .u32 0, .int .i64 0, .int .i64 0, .int .i64 0, .bool false, .int .i64 0, .slice none 0 0] 36 (0, 0)) → Fr (fun k => k = w.heap.size) w1 w5 → w6.heap[w.heap.size + 1]? = some (.cells #[.bool bad.is, .int .i64 bad.st, .int .i64 bad.code] 38 (0, 0)) → Fr (fun k => k = w.heap.size + 1) w5 w6 →
      (w6.heap[w.heap.size]? = some (.cells #[.int .i64 0, .int .i64 0, .int .i64 0, .slice none 0 0, .int .i64 0, .int .u32 0, .int .i64 0, .int .i64 0, .int .i64 0, .bool false, .int .i64 0, .slice none 0 0] 36 (0, 0))) ∧ Fr (fun _ => False) w w6) := fun bad n er w1 w5 w6 h1 h2 h3 h4 h5 => by
    refine ⟨(h5.block _ (lt_of_heap h2) (by omega)).trans h2, ?_⟩
    have h6 : Fr (fun k => w.heap.size ≤ k) w w6 := (((HFW.out.trans h1).mono (T := fun k => w.heap.size ≤ k) (fun _ _ e => e.elim)).trans (h3.mono (fun k _ e => by omega))).trans (h5.mono (fun k _ e => by omega))
    exact h6.mono (fun k hk e => by omega)
  have KH : Hid (∀ w', Fr (fun _ => False) W w' → Calls Try.prog 55 #[.slice a len cap] w' fun e w2 => HeadAs (headO B) e ∧ Fr (fun _ => False) w' w2) := fun w' hf => Head_in a len cap w' B (hs.oldF (HFW.out.trans hf)) hl hm
  have HS : Hid (SrcAt w a B) := hs
  have HL : Hid (B.length = len) := hl
  have hone : (#[.int .i64 0, .int .i64 0, .int .i64 0, .slice none 0 0, .int .i64 0, .int .u32 0, .int .i64 0, .int .i64 0, .int .i64 0, .bool false, .int .i64 0, .slice none 0 0] : Array Value).all (·.oneCell') = true := by simp [Value.oneCell']
  have hinf : (Try.prog.info? 36).map (·.size) = some (#[.int .i64 0, .int .i64 0, .int .i64 0, .slice none 0 0, .int .i64 0, .int .u32 0, .int .i64 0, .int .i64 0, .int .i64 0, .bool false, .int .i64 0, .slice none 0 0] : Array Value).size := by kernel_rfl
  obtain ⟨out, hout⟩ : ∃ out, parseO B most = out := ⟨_, rfl⟩
  have HO : Hid (parseO B most = out) := hout
  rw [hout]
  have hmr := i64r hmost
  clear hs hl hr1 hr2 hout hmost
  by_cases hneg : most < 0
  case pos =>
    have HE : Hid (out = (zeroF, 0, ⟨false, 0, 0⟩, 1)) := by show _ = _; rw [← HO.out, parseO, if_pos hneg]
    rw [hW] at HRES HEND
    go_enter Try.func47, Try.ntmps47
    go_wp2_with (first
      | (refine wpList_storeB rfl 36 (.tmp 4) (.tmp 18) rfl w.heap.size #[.int .i64 0, .int .i64 0, .int .i64 0, .slice none 0 0, .int .i64 0, .int .u32 0, .int .i64 0, .int .i64 0, .int .i64 0, .bool false, .int .i64 0, .slice none 0 0] #[.int .i64 0, .int .i64 0, .int .i64 0, .slice none 0 0, .int .i64 0, .int .u32 0, .int .i64 0, .int .i64 0, .int .i64 0, .bool false, .int .i64 0, .slice none 0 0] 36 rfl rfl (HRES.out _ (Fr.refl _ _)).1 rfl hinf hone ?_; intro w5 H5 F5)
      | (refine wpList_storeB rfl 38 (.tmp 6) (.tmp 19) rfl (w.heap.size + 1) #[.bool false, .int .i64 0, .int .i64 0] #[.bool false, .int .i64 0, .int .i64 0] 38 rfl rfl ((F5.out.block _ (lt_of_heap (HRES.out _ (Fr.refl _ _)).2) (by omega)).trans (HRES.out _ (Fr.refl _ _)).2) rfl (by kernel_rfl) (by simp [Value.oneCell']) ?_; intro w6 H6 F6))
    obtain ⟨hx5, hfr⟩ := HEND.out ⟨false, 0, 0⟩ 0 0 _ w5 w6 (Fr.refl _ _) H5.out F5.out H6.out F6.out
    have hx6 : w6.heap[w.heap.size + 1]? = some (.cells #[.bool false, .int .i64 0, .int .i64 0] 38 (0, 0)) := H6.out
    obtain ⟨r0, r1, r2, r3, r4, r5, r6, r7, r8, r9, r10, r11⟩ := fcells (f := zeroF) (p := none) (q := none) (cp := 0) (cq := 0) hx5
    have s0 : w6.cell? ⟨w.heap.size + 1, 0, none⟩ = _ := cell_of_heap hx6 rfl
    have s1 : w6.cell? ⟨w.heap.size + 1, 1, none⟩ = _ := cell_of_heap hx6 rfl
    have s2 : w6.cell? ⟨w.heap.size + 1, 2, none⟩ = _ := cell_of_heap hx6 rfl
    refine bodyPost_ret (v := .tuple #[.agg #[.int .i64 0, .int .i64 0, .int .i64 0, .slice none 0 0, .int .i64 0, .int .u32 0, .int .i64 0, .int .i64 0, .int .i64 0, .bool false, .int .i64 0, .slice none 0 0], .int .i64 0, .agg #[.bool false, .int .i64 0, .int .i64 0], .int .i64 1]) (by simp [results, Try.results47, go_sem, r0, r1, r2, r3, r4, r5, r6, r7, r8, r9, r10, r11, s0, s1, s2, zeroF]) rfl ?_
    rw [HE.out]
    exact ⟨none, 0, none, 0, rfl, SrcAt.nil _ _, SetsAt.nil _, hfr, fun ad e => (by cases e), fun ad e => (by cases e)⟩
  case neg =>
    by_cases h9 : len < 9
    case pos =>
      have HE : Hid (out = (zeroF, 0, ⟨false, 0, 0⟩, 3)) := by show _ = _; rw [← HO.out, parseO, if_neg hneg, if_pos (by rw [HL.out]; exact h9)]
      rw [show headO B = (0, 0, 0, 0, 3) from if_pos (by rw [HL.out]; exact h9)] at KH
      clear h9
      go_enter Try.func47, Try.ntmps47
      go_wp2_with (fail)
      rw [← hW]
      refine (KH.out _ (Fr.refl _ _)).mono ?_
      rintro e w1 ⟨rfl, hf1⟩
      dsimp only
      go_wp2_with (first
        | (refine wpList_storeB rfl 36 (.tmp 4) (.tmp 30) rfl w.heap.size #[.int .i64 0, .int .i64 0, .int .i64 0, .slice none 0 0, .int .i64 0, .int .u32 0, .int .i64 0, .int .i64 0, .int .i64 0, .bool false, .int .i64 0, .slice none 0 0] #[.int .i64 0, .int .i64 0, .int .i64 0, .slice none 0 0, .int .i64 0, .int .u32 0, .int .i64 0, .int .i64 0, .int .i64 0, .bool false, .int .i64 0, .slice none 0 0] 36 rfl rfl (HRES.out w1 hf1).1 rfl hinf hone ?_; intro w5 H5 F5)
        | (refine wpList_storeB rfl 38 (.tmp 6) (.tmp 31) rfl (w.heap.size + 1) #[.bool false, .int .i64 0, .int .i64 0] #[.bool false, .int .i64 0, .int .i64 0] 38 rfl rfl ((F5.out.block _ (lt_of_heap (HRES.out w1 hf1).2) (by omega)).trans (HRES.out w1 hf1).2) rfl (by kernel_rfl) (by simp [Value.oneCell']) ?_; intro w6 H6 F6))
      obtain ⟨hx5, hfr⟩ := HEND.out ⟨false, 0, 0⟩ 0 0 w1 w5 w6 hf1 H5.out F5.out H6.out F6.out
      have hx6 : w6.heap[w.heap.size + 1]? = some (.cells #[.bool false, .int .i64 0, .int .i64 0] 38 (0, 0)) := H6.out
      obtain ⟨r0, r1, r2, r3, r4, r5, r6, r7, r8, r9, r10, r11⟩ := fcells (f := zeroF) (p := none) (q := none) (cp := 0) (cq := 0) hx5
      have s0 : w6.cell? ⟨w.heap.size + 1, 0, none⟩ = _ := cell_of_heap hx6 rfl
      have s1 : w6.cell? ⟨w.heap.size + 1, 1, none⟩ = _ := cell_of_heap hx6 rfl
      have s2 : w6.cell? ⟨w.heap.size + 1, 2, none⟩ = _ := cell_of_heap hx6 rfl
      refine bodyPost_ret (v := .tuple #[.agg #[.int .i64 0, .int .i64 0, .int .i64 0, .slice none 0 0, .int .i64 0, .int .u32 0, .int .i64 0, .int .i64 0, .int .i64 0, .bool false, .int .i64 0, .slice none 0 0], .int .i64 0, .agg #[.bool false, .int .i64 0, .int .i64 0], .int .i64 3]) (by simp [results, Try.results47, go_sem, r0, r1, r2, r3, r4, r5, r6, r7, r8, r9, r10, r11, s0, s1, s2, zeroF]) rfl ?_
      rw [HE.out]
      exact ⟨none, 0, none, 0, rfl, SrcAt.nil _ _, SetsAt.nil _, hfr, fun ad e => (by cases e), fun ad e => (by cases e)⟩
    case neg =>
      rw [show headO B = (num (B.take 3), (B.getD 3 0).toNat, (B.getD 4 0).toNat, num ((B.drop 5).take 4) % 2147483648, 0) from if_neg (by rw [HL.out]; exact h9)] at KH
      obtain ⟨N, hN⟩ : ∃ N, num (B.take 3) = N := ⟨_, rfl⟩
      have hNb : N ≤ 16777215 := by have := num3 B; omega
      obtain ⟨x3, hx3⟩ : ∃ x, B.getD 3 0 = x := ⟨_, rfl⟩
      obtain ⟨x4, hx4⟩ : ∃ x, B.getD 4 0 = x := ⟨_, rfl⟩
      obtain ⟨M, hM⟩ : ∃ M, num ((B.drop 5).take 4) % 2147483648 = M := ⟨_, rfl⟩
      have hMb : M ≤ 2147483647 := by omega
      rw [hN, hx3, hx4, hM] at KH
      have u3 := x3.toNat_lt
      have u4 := x4.toNat_lt
      by_cases hbig : most < (N : Int)
      case pos =>
        have HE : Hid (out = (zeroF, 9, ⟨true, 0, 6⟩, 0)) := by show _ = _; rw [← HO.out, parseO, if_neg hneg, if_neg (by rw [HL.out]; exact h9), hN, if_pos hbig]
        clear hN hx3 hx4 hM
        go_enter Try.func47, Try.ntmps47
        go_wp2_with (fail)
        rw [← hW]
        refine (KH.out _ (Fr.refl _ _)).mono ?_
        rintro e w1 ⟨rfl, hf1⟩
        dsimp only
        go_wp2_with (first
          | (refine wpList_storeB rfl 36 (.tmp 4) (.tmp 36) rfl w.heap.size #[.int .i64 0, .int .i64 0, .int .i64 0, .slice none 0 0, .int .i64 0, .int .u32 0, .int .i64 0, .int .i64 0, .int .i64 0, .bool false, .int .i64 0, .slice none 0 0] #[.int .i64 0, .int .i64 0, .int .i64 0, .slice none 0 0, .int .i64 0, .int .u32 0, .int .i64 0, .int .i64 0, .int .i64 0, .bool false, .int .i64 0, .slice none 0 0] 36 rfl rfl (HRES.out w1 hf1).1 rfl hinf hone ?_; intro w5 H5 F5)
          | (refine wpList_storeB rfl 38 (.tmp 6) (.tmp 37) rfl (w.heap.size + 1) #[.bool false, .int .i64 0, .int .i64 0] #[.bool true, .int .i64 0, .int .i64 6] 38 rfl rfl ((F5.out.block _ (lt_of_heap (HRES.out w1 hf1).2) (by omega)).trans (HRES.out w1 hf1).2) rfl (by kernel_rfl) (by simp [Value.oneCell']) ?_; intro w6 H6 F6))
        obtain ⟨hx5, hfr⟩ := HEND.out ⟨true, 0, 6⟩ 0 0 w1 w5 w6 hf1 H5.out F5.out H6.out F6.out
        have hx6 : w6.heap[w.heap.size + 1]? = some (.cells #[.bool true, .int .i64 0, .int .i64 6] 38 (0, 0)) := H6.out
        obtain ⟨r0, r1, r2, r3, r4, r5, r6, r7, r8, r9, r10, r11⟩ := fcells (f := zeroF) (p := none) (q := none) (cp := 0) (cq := 0) hx5
        have s0 : w6.cell? ⟨w.heap.size + 1, 0, none⟩ = _ := cell_of_heap hx6 rfl
        have s1 : w6.cell? ⟨w.heap.size + 1, 1, none⟩ = _ := cell_of_heap hx6 rfl
        have s2 : w6.cell? ⟨w.heap.size + 1, 2, none⟩ = _ := cell_of_heap hx6 rfl
        refine bodyPost_ret (v := .tuple #[.agg #[.int .i64 0, .int .i64 0, .int .i64 0, .slice none 0 0, .int .i64 0, .int .u32 0, .int .i64 0, .int .i64 0, .int .i64 0, .bool false, .int .i64 0, .slice none 0 0], .int .i64 9, .agg #[.bool true, .int .i64 0, .int .i64 6], .int .i64 0]) (by simp [results, Try.results47, go_sem, r0, r1, r2, r3, r4, r5, r6, r7, r8, r9, r10, r11, s0, s1, s2, zeroF]) rfl ?_
        rw [HE.out]
        exact ⟨none, 0, none, 0, rfl, SrcAt.nil _ _, SetsAt.nil _, hfr, fun ad e => (by cases e), fun ad e => (by cases e)⟩
      case neg =>
        by_cases hsh : len < 9 + N
        case pos =>
          have HE : Hid (out = (zeroF, 0, ⟨false, 0, 0⟩, 3)) := by show _ = _; rw [← HO.out, parseO, if_neg hneg, if_neg (by rw [HL.out]; exact h9), hN, if_neg hbig, if_pos (by rw [HL.out]; exact hsh)]
          clear hN hx3 hx4 hM
          go_enter Try.func47, Try.ntmps47
          go_wp2_with (fail)
          rw [← hW]
          refine (KH.out _ (Fr.refl _ _)).mono ?_
          rintro e w1 ⟨rfl, hf1⟩
          dsimp only
          go_wp2_with (first
            | (refine wpList_storeB rfl 36 (.tmp 4) (.tmp 44) rfl w.heap.size #[.int .i64 0, .int .i64 0, .int .i64 0, .slice none 0 0, .int .i64 0, .int .u32 0, .int .i64 0, .int .i64 0, .int .i64 0, .bool false, .int .i64 0, .slice none 0 0] #[.int .i64 0, .int .i64 0, .int .i64 0, .slice none 0 0, .int .i64 0, .int .u32 0, .int .i64 0, .int .i64 0, .int .i64 0, .bool false, .int .i64 0, .slice none 0 0] 36 rfl rfl (HRES.out w1 hf1).1 rfl hinf hone ?_; intro w5 H5 F5)
            | (refine wpList_storeB rfl 38 (.tmp 6) (.tmp 45) rfl (w.heap.size + 1) #[.bool false, .int .i64 0, .int .i64 0] #[.bool false, .int .i64 0, .int .i64 0] 38 rfl rfl ((F5.out.block _ (lt_of_heap (HRES.out w1 hf1).2) (by omega)).trans (HRES.out w1 hf1).2) rfl (by kernel_rfl) (by simp [Value.oneCell']) ?_; intro w6 H6 F6))
          obtain ⟨hx5, hfr⟩ := HEND.out ⟨false, 0, 0⟩ 0 0 w1 w5 w6 hf1 H5.out F5.out H6.out F6.out
          have hx6 : w6.heap[w.heap.size + 1]? = some (.cells #[.bool false, .int .i64 0, .int .i64 0] 38 (0, 0)) := H6.out
          obtain ⟨r0, r1, r2, r3, r4, r5, r6, r7, r8, r9, r10, r11⟩ := fcells (f := zeroF) (p := none) (q := none) (cp := 0) (cq := 0) hx5
          have s0 : w6.cell? ⟨w.heap.size + 1, 0, none⟩ = _ := cell_of_heap hx6 rfl
          have s1 : w6.cell? ⟨w.heap.size + 1, 1, none⟩ = _ := cell_of_heap hx6 rfl
          have s2 : w6.cell? ⟨w.heap.size + 1, 2, none⟩ = _ := cell_of_heap hx6 rfl
          refine bodyPost_ret (v := .tuple #[.agg #[.int .i64 0, .int .i64 0, .int .i64 0, .slice none 0 0, .int .i64 0, .int .u32 0, .int .i64 0, .int .i64 0, .int .i64 0, .bool false, .int .i64 0, .slice none 0 0], .int .i64 0, .agg #[.bool false, .int .i64 0, .int .i64 0], .int .i64 3]) (by simp [results, Try.results47, go_sem, r0, r1, r2, r3, r4, r5, r6, r7, r8, r9, r10, r11, s0, s1, s2, zeroF]) rfl ?_
          rw [HE.out]
          exact ⟨none, 0, none, 0, rfl, SrcAt.nil _ _, SetsAt.nil _, hfr, fun ad e => (by cases e), fun ad e => (by cases e)⟩
        case neg =>
          obtain ⟨en, hen⟩ : ∃ en, 9 + N = en := ⟨_, rfl⟩
          have hen2 : (9 : Int) + (N : Int) = (en : Int) := by omega
          have henl : en ≤ len := by omega
          obtain ⟨dp, hcut, hcs, -⟩ := cut3 a len cap 9 en B HL.out hc (by omega) henl
          rw [show en - 9 = N by omega] at hcut hcs
          obtain ⟨gf, hgf⟩ : ∃ gf, (readO (headF B) ((B.drop 9).take N)).1 = gf := ⟨_, rfl⟩
          obtain ⟨fo, hfo⟩ : ∃ fo, (readO (headF B) ((B.drop 9).take N)).2 = fo := ⟨_, rfl⟩
          have HE : Hid (out = (gf, en, fo, 0)) := by show _ = _; rw [← HO.out, parseO, if_neg hneg, if_neg (by rw [HL.out]; exact h9), hN, if_neg hbig, if_neg (by rw [HL.out]; exact hsh), hgf, hfo, hen]
          have hcut' : ∀ w, (Instr.slice 31 (.slice a len cap) (some (.int .i64 9)) (some (.int .i64 (en : Int))) (some (.int .i64 (en : Int)))).run Try.prog w = .ok (.slice dp N N) w := hcut
          have KR : Hid (∀ w', Fr (fun _ => False) w w' → Calls Try.prog 56 #[.agg #[.int .i64 (x3.toNat : Int), .int .i64 (x4.toNat : Int), .int .i64 (M : Int), .slice none 0 0, .int .i64 0, .int .u32 0, .int .i64 0, .int .i64 0, .int .i64 0, .bool false, .int .i64 0, .slice none 0 0], .slice dp N N] w' fun e w2 => RdAs w' (gf, fo) e w2) := fun w' hf => by
            have h := read_in (headF B) none none 0 0 dp N N ((B.drop 9).take N) w' (by simp [headF]) (by simp only [headF, hx4]; omega) (SrcAt.nil _ _) (SetsAt.nil _) ⟨rfl, rfl, rfl, rfl, rfl⟩ (hcs _ (HS.out.oldF hf)) (by rw [List.length_take, List.length_drop, HL.out]; omega) (Nat.le_refl _) hNb
            have e1 : readO (headF B) ((B.drop 9).take N) = (gf, fo) := Prod.ext hgf hfo
            have e2 : (headF B).k = (x3.toNat : Int) ∧ (headF B).fl = (x4.toNat : Int) ∧ (headF B).st = (M : Int) := by simp only [headF, hx3, hx4, hM]; exact ⟨trivial, trivial, trivial⟩
            rw [e1, e2.1, e2.2.1, e2.2.2] at h
            exact h
          clear hN hx3 hx4 hM hcut hcs hgf hfo hen
          go_enter Try.func47, Try.ntmps47
          go_wp2_with (fail)
          rw [← hW]
          refine (KH.out _ (Fr.refl _ _)).mono ?_
          rintro e w1 ⟨rfl, hf1⟩
          dsimp only
          have F1 : Hid (Fr (fun _ => False) W w1) := hf1
          clear hf1
          go_wp2_with (fail)
          refine (KR.out _ (HFW.out.trans F1.out)).mono ?_
          rintro e w9 ⟨p9, k9, q9, d9, rfl, hX9, hY9, hpf, hqf, hf9⟩
          dsimp only
          have F9 : Hid (Fr (fun _ => False) W w9) := F1.out.trans hf9
          have hbig9 : w.heap.size + 2 ≤ w1.heap.size := by have h1 := F1.out.size; have h2 := lt_of_heap (HRES.out _ (Fr.refl _ _)).2; omega
          have G9 : Hid (SrcAt w9 p9 gf.X ∧ SetsAt w9 q9 d9 gf.Y ∧ (∀ ad, p9 = some ad → 0 < gf.X.length → w.heap.size + 2 ≤ ad.block) ∧ (∀ ad, q9 = some ad → 0 < gf.Y.length → w.heap.size + 2 ≤ ad.block)) := ⟨hX9, hY9, fun ad e hl => Nat.le_trans hbig9 (hpf ad e hl), fun ad e hl => Nat.le_trans hbig9 (hqf ad e hl)⟩
          clear hX9 hY9 hpf hqf hf9 hbig9
          go_wp2_with (fail)
          obtain ⟨wt, hwt⟩ : ∃ wt, wt = ((w9.alloc (.cells #[.int .i64 gf.k, .int .i64 gf.fl, .int .i64 gf.st, .slice p9 gf.X.length k9, .int .i64 gf.pad, .int .u32 gf.code, .int .i64 gf.last, .int .i64 gf.inc, .int .i64 gf.dep, .bool gf.only, .int .i64 gf.wt, .slice q9 gf.Y.length d9] 36)).alloc (.cells #[.bool fo.is, .int .i64 fo.st, .int .i64 fo.code] 38)) := ⟨_, rfl⟩
          have T1 : Hid (wt.heap[w9.heap.size]? = some (.cells #[.int .i64 gf.k, .int .i64 gf.fl, .int .i64 gf.st, .slice p9 gf.X.length k9, .int .i64 gf.pad, .int .u32 gf.code, .int .i64 gf.last, .int .i64 gf.inc, .int .i64 gf.dep, .bool gf.only, .int .i64 gf.wt, .slice q9 gf.Y.length d9] 36 (0, 0)) ∧ wt.heap[w9.heap.size + 1]? = some (.cells #[.bool fo.is, .int .i64 fo.st, .int .i64 fo.code] 38 (0, 0)) ∧ Fr (fun _ => False) w9 wt) := by
            rw [hwt]
            exact ⟨past_at _ (heap_alloc_new w9 _), last_at _ (by simp), ((Fr.refl _ _).alloc _).alloc _⟩
          rw [← hwt]
          clear hwt
          have hge : w.heap.size + 2 ≤ w9.heap.size := by have h1 := F9.out.size; have h2 := lt_of_heap (HRES.out _ (Fr.refl _ _)).2; omega
          have hone9 : (#[.int .i64 gf.k, .int .i64 gf.fl, .int .i64 gf.st, .slice p9 gf.X.length k9, .int .i64 gf.pad, .int .u32 gf.code, .int .i64 gf.last, .int .i64 gf.inc, .int .i64 gf.dep, .bool gf.only, .int .i64 gf.wt, .slice q9 gf.Y.length d9] : Array Value).all (·.oneCell') = true := by simp [Value.oneCell']
          have hinf9 : (Try.prog.info? 36).map (·.size) = some (#[.int .i64 gf.k, .int .i64 gf.fl, .int .i64 gf.st, .slice p9 gf.X.length k9, .int .i64 gf.pad, .int .u32 gf.code, .int .i64 gf.last, .int .i64 gf.inc, .int .i64 gf.dep, .bool gf.only, .int .i64 gf.wt, .slice q9 gf.Y.length d9] : Array Value).size := by kernel_rfl
          have hone3 : (#[.bool fo.is, .int .i64 fo.st, .int .i64 fo.code] : Array Value).all (·.oneCell') = true := by simp [Value.oneCell']
          have hinf3 : (Try.prog.info? 38).map (·.size) = some (#[.bool fo.is, .int .i64 fo.st, .int .i64 fo.code] : Array Value).size := by kernel_rfl
          have HT : Hid (∀ w2, Fr (fun k => k = w.heap.size ∨ k = w.heap.size + 1) wt w2 → w2.heap[w9.heap.size]? = some (.cells #[.int .i64 gf.k, .int .i64 gf.fl, .int .i64 gf.st, .slice p9 gf.X.length k9, .int .i64 gf.pad, .int .u32 gf.code, .int .i64 gf.last, .int .i64 gf.inc, .int .i64 gf.dep, .bool gf.only, .int .i64 gf.wt, .slice q9 gf.Y.length d9] 36 (0, 0)) ∧ w2.heap[w9.heap.size + 1]? = some (.cells #[.bool fo.is, .int .i64 fo.st, .int .i64 fo.code] 38 (0, 0))) := fun w2 hf => ⟨(hf.block _ (lt_of_heap T1.out.1) (by omega)).trans T1.out.1, (hf.block _ (lt_of_heap T1.out.2.1) (by omega)).trans T1.out.2.1⟩
          have HR9 := HRES.out wt (F9.out.trans T1.out.2.2)
          refine wp_region_held_drew (S := fun w2 => w2.heap[w9.heap.size]? = some (.cells #[.int .i64 gf.k, .int .i64 gf.fl, .int .i64 gf.st, .slice p9 gf.X.length k9, .int .i64 gf.pad, .int .u32 gf.code, .int .i64 gf.last, .int .i64 gf.inc, .int .i64 gf.dep, .bool gf.only, .int .i64 gf.wt, .slice q9 gf.Y.length d9] 36 (0, 0)) ∧ w2.heap[w9.heap.size + 1]? = some (.cells #[.bool fo.is, .int .i64 fo.st, .int .i64 fo.code] 38 (0, 0))) (by kernel_rfl) ⟨T1.out.1, T1.out.2.1⟩ (fun hHeld => ?_)
          refine wpAnyH_take (i := 0) (oi := _) (v := .agg #[.int .i64 gf.k, .int .i64 gf.fl, .int .i64 gf.st, .slice p9 gf.X.length k9, .int .i64 gf.pad, .int .u32 gf.code, .int .i64 gf.last, .int .i64 gf.inc, .int .i64 gf.dep, .bool gf.only, .int .i64 gf.wt, .slice q9 gf.Y.length d9]) rfl (by kernel_rfl) (by kernel_rfl) (by kernel_rfl) (fun _ _ _ h => h) (Or.inl ⟨by kernel_rfl, fun w2 hw => by obtain ⟨c0, c1, c2, c3, c4, c5, c6, c7, c8, c9, c10, c11⟩ := fcells hw.1; go_simp⟩) hHeld ?_
          refine wpAnyH_take (i := 1) (oi := _) (v := .int .i64 (en : Int)) rfl (by kernel_rfl) (by kernel_rfl) (by kernel_rfl) (fun _ _ _ h => h) (Or.inl ⟨by kernel_rfl, fun w2 hw => by go_simp⟩) hHeld ?_
          refine wpAnyH_take (i := 2) (oi := _) (v := .agg #[.bool fo.is, .int .i64 fo.st, .int .i64 fo.code]) rfl (by kernel_rfl) (by kernel_rfl) (by kernel_rfl) (fun _ _ _ h => h) (Or.inl ⟨by kernel_rfl, fun w2 hw => by
            have d0 : w2.cell? ⟨w9.heap.size + 1, 0, none⟩ = some (.bool fo.is) := cell_of_heap hw.2 rfl
            have d1 : w2.cell? ⟨w9.heap.size + 1, 1, none⟩ = some (.int .i64 fo.st) := cell_of_heap hw.2 rfl
            have d2 : w2.cell? ⟨w9.heap.size + 1, 2, none⟩ = some (.int .i64 fo.code) := cell_of_heap hw.2 rfl
            go_simp⟩) hHeld ?_
          refine wpAnyH_ready (rs := [3]) (by kernel_rfl) (by simp) ?_
          refine AllReadyH.cons rfl (fun K hK => ?_) AllReadyH.nil
          refine stepR_storeB rfl rfl 36 (.tmp 4) (.tmp 58) rfl w.heap.size #[.int .i64 0, .int .i64 0, .int .i64 0, .slice none 0 0, .int .i64 0, .int .u32 0, .int .i64 0, .int .i64 0, .int .i64 0, .bool false, .int .i64 0, .slice none 0 0] #[.int .i64 gf.k, .int .i64 gf.fl, .int .i64 gf.st, .slice p9 gf.X.length k9, .int .i64 gf.pad, .int .u32 gf.code, .int .i64 gf.last, .int .i64 gf.inc, .int .i64 gf.dep, .bool gf.only, .int .i64 gf.wt, .slice q9 gf.Y.length d9] 36 rfl rfl HR9.1 rfl hinf9 hone9 ?_
          intro w10 H10 F10
          have f10 : Fr (fun k => k = w.heap.size ∨ k = w.heap.size + 1) wt w10 := ((Fr.refl _ _).drew.trans F10.out).mono (fun _ _ e => .inl e)
          refine hK.out _ _ (HT.out _ f10) (fun hHeld2 => ?_)
          clear hK K
          refine wpAnyH_ready (rs := [4]) (by kernel_rfl) (by simp) ?_
          refine AllReadyH.cons rfl (fun K hK => ?_) AllReadyH.nil
          go_simp
          refine hK.out _ _ hHeld2 (fun _ => ?_)
          clear hK K
          refine wpAnyH_ready (rs := [5]) (by kernel_rfl) (by simp) ?_
          refine AllReadyH.cons rfl (fun K hK => ?_) AllReadyH.nil
          refine stepR_storeB rfl rfl 38 (.tmp 6) (.tmp 60) rfl (w.heap.size + 1) #[.bool false, .int .i64 0, .int .i64 0] #[.bool fo.is, .int .i64 fo.st, .int .i64 fo.code] 38 rfl rfl ((F10.out.block _ (lt_of_heap HR9.2) (by omega)).trans HR9.2) rfl hinf3 hone3 ?_
          intro w11 H11 F11
          have f11 : Fr (fun k => k = w.heap.size ∨ k = w.heap.size + 1) wt w11 := f10.trans (F11.out.mono (fun _ _ e => .inr e))
          refine hK.out _ _ (HT.out _ f11) (fun hHeld3 => ?_)
          clear hK K
          refine wpAnyH_ready (rs := [6]) (by kernel_rfl) (by simp) ?_
          refine AllReadyH.cons rfl (fun K hK => ?_) AllReadyH.nil
          go_simp
          refine hK.out _ _ hHeld3 (fun _ => ?_)
          clear hK K
          refine wpAnyH_done (by kernel_rfl) ?_ _
          go_wp2_with (fail)
          have hx10 : FAt w11 w.heap.size gf p9 k9 q9 d9 := (F11.out.block _ (lt_of_heap H10.out) (by omega)).trans H10.out
          have hx11 : w11.heap[w.heap.size + 1]? = some (.cells #[.bool fo.is, .int .i64 fo.st, .int .i64 fo.code] 38 (0, 0)) := H11.out
          obtain ⟨r0, r1, r2, r3, r4, r5, r6, r7, r8, r9, r10, r11⟩ := fcells hx10
          have s0 : w11.cell? ⟨w.heap.size + 1, 0, none⟩ = some (.bool fo.is) := cell_of_heap hx11 rfl
          have s1 : w11.cell? ⟨w.heap.size + 1, 1, none⟩ = some (.int .i64 fo.st) := cell_of_heap hx11 rfl
          have s2 : w11.cell? ⟨w.heap.size + 1, 2, none⟩ = some (.int .i64 fo.code) := cell_of_heap hx11 rfl
          refine bodyPost_ret (v := .tuple #[.agg #[.int .i64 gf.k, .int .i64 gf.fl, .int .i64 gf.st, .slice p9 gf.X.length k9, .int .i64 gf.pad, .int .u32 gf.code, .int .i64 gf.last, .int .i64 gf.inc, .int .i64 gf.dep, .bool gf.only, .int .i64 gf.wt, .slice q9 gf.Y.length d9], .int .i64 (en : Int), .agg #[.bool fo.is, .int .i64 fo.st, .int .i64 fo.code], .int .i64 0]) (by simp [results, Try.results47, go_sem, r0, r1, r2, r3, r4, r5, r6, r7, r8, r9, r10, r11, s0, s1, s2]) rfl ?_
          rw [HE.out]
          have ft : Fr (fun k => k = w.heap.size ∨ k = w.heap.size + 1) w9 w11 := (T1.out.2.2.mono (fun _ _ e => e.elim)).trans f11
          refine ⟨p9, k9, q9, d9, rfl, ?_, ?_, ?_, fun ad e hl => (by have := G9.out.2.2.1 ad e hl; omega), fun ad e hl => (by have := G9.out.2.2.2 ad e hl; omega)⟩
          · exact G9.out.1.fr ft (fun ad e hl e2 => by have := G9.out.2.2.1 ad e hl; omega)
          · exact G9.out.2.1.fr ft (fun ad e hl e2 => by have := G9.out.2.2.2 ad e hl; omega)
          · exact (((HFW.out.trans F9.out).mono (T := fun k => k = w.heap.size ∨ k = w.heap.size + 1) (fun _ _ e => e.elim)).trans ft).mono (fun k hk e => by omega)
theorem Parse_in (a : Option Addr) (len cap : Nat) (B : List UInt8) (most : Int) (w : World) (hs : SrcAt w a B) (hl : B.length = len) (hc : len ≤ cap) (hm : len ≤ 9223372036854775807) (hmost : (Lit.int .i64 most).wf = true) :
    Calls Try.prog 47 #[.slice a len cap, .int .i64 most] w fun e w' => ParsedAs w (parseO B most) e w' := by
  refine (Parse_new a len cap B most w hs hl hc hm hmost).mono ?_
  rintro e w' ⟨p, cp, q, cq, h1, h2, h3, h4, -, -⟩
  exact ⟨p, cp, q, cq, h1, h2, h3, h4⟩
end Go.Proofs.Ytikaefjhmgcidaa
