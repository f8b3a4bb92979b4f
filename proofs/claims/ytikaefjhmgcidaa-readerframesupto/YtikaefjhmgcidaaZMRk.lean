/- The document's faults, sizes and priority, read. -/
import Derived.Test.YtikaefjhmgcidaaZMRa
import Derived.Test.YtikaefjhmgcidaaZFo
import Derived.Test.YtikaefjhmgcidaaZFp
import Derived.Test.YtikaefjhmgcidaaZRx
namespace Go.Proofs.Ytikaefjhmgcidaa
open Go.RowKit
set_option linter.unusedVariables false
set_option maxRecDepth 100000
set_option maxHeartbeats 4000000

theorem fault_in (c : Int) (w : World) : Calls Try.prog 33 #[.int .i64 c] w fun e w' => e = .returned (.agg #[.bool true, .int .i64 0, .int .i64 c]) ∧ Fr (fun _ => False) w w' := by
  obtain ⟨W, hW⟩ : ∃ W, W = w.alloc (.cells #[.bool false, .int .i64 0, .int .i64 0] 38) := ⟨_, rfl⟩
  have HR : Hid (W.heap[w.heap.size]? = some (.cells #[.bool false, .int .i64 0, .int .i64 0] 38 (0, 0))) := by rw [hW]; exact heap_alloc_new w _
  have HF : Hid (Fr (fun _ => False) w W) := by rw [hW]; exact (Fr.refl _ _).alloc _
  go_enter Try.func33, Try.ntmps33
  go_wp2_with (refine wpList_storeB rfl 38 (.tmp 2) (.tmp 4) rfl w.heap.size #[.bool false, .int .i64 0, .int .i64 0] #[.bool true, .int .i64 0, .int .i64 c] 38 rfl rfl (by rw [← hW]; exact HR.out) rfl (by kernel_rfl) (by simp [Value.oneCell']) ?_; intro w5 H5 F5)
  rw [← hW] at F5
  have s0 : w5.cell? ⟨w.heap.size, 0, none⟩ = some (.bool true) := cell_of_heap H5.out rfl
  have s1 : w5.cell? ⟨w.heap.size, 1, none⟩ = some (.int .i64 0) := cell_of_heap H5.out rfl
  have s2 : w5.cell? ⟨w.heap.size, 2, none⟩ = some (.int .i64 c) := cell_of_heap H5.out rfl
  refine bodyPost_ret (v := .agg #[.bool true, .int .i64 0, .int .i64 c]) (by simp [results, Try.results33, go_sem, s0, s1, s2]) rfl ?_
  exact ⟨rfl, ((HF.out.mono (T := fun k => k = w.heap.size) (fun _ _ e => e.elim)).trans F5.out).mono (fun k hk e => by omega)⟩

theorem rsize_in (f : Fra) (n : Nat) (p q : Option Addr) (cp cq : Nat) (w : World) (h0 : 0 ≤ f.fl) (h1 : f.fl ≤ 255) (hn : n ≤ 9223372036854775807) : Calls Try.prog 35 #[.agg #[.int .i64 f.k, .int .i64 f.fl, .int .i64 f.st, .slice p f.X.length cp, .int .i64 f.pad, .int .u32 f.code, .int .i64 f.last, .int .i64 f.inc, .int .i64 f.dep, .bool f.only, .int .i64 f.wt, .slice q f.Y.length cq], .int .i64 n] w fun e w' => e = .returned (.bool (!sizedB f n)) ∧ Fr (fun _ => False) w w' := by
  have hg : Fr (fun _ => False) w (w.alloc (.cells #[.int .i64 f.k, .int .i64 f.fl, .int .i64 f.st, .slice p f.X.length cp, .int .i64 f.pad, .int .u32 f.code, .int .i64 f.last, .int .i64 f.inc, .int .i64 f.dep, .bool f.only, .int .i64 f.wt, .slice q f.Y.length cq] 36)) := (Fr.refl _ _).alloc _
  have K4 : ∀ w, Calls Try.prog 40 #[.int .i64 f.fl, .int .i64 1] w fun e w' => e = .returned (.bool (has f.fl 1)) ∧ w = w' := fun w => has_in f.fl 1 w (by omega) h0 h1
  rcases kinds f.k with h | h | h | h | h | h | h | h | h | h | ⟨n0, n1, n2, n3, n4, n5, n6, n7, n8, n9⟩
  case' inr.inr.inr.inr.inl =>
    by_cases hm : n % 6 = 0
    · have hm' : ((n : Int) % 6 != 0) = false := by simp; omega
      by_cases hz : n = 0
      · have hd : (!sizedB f n) = false := by simp [sizedB, h, hz]
        have hz' : decide ((0 : Int) < (n : Int)) = false := by simp; omega
        go_enter Try.func35, Try.ntmps35
        go_wp2
        go_ret
        exact ⟨by first | rfl | (rw [hd]; rfl), (Fr.refl _ _).alloc _⟩
      · have hd : (!sizedB f n) = has f.fl 1 := by
          cases hh : has f.fl 1 <;> simp [sizedB, h, hz, hm, hh]
        have hz' : (0 : Int) < (n : Int) := by omega
        go_enter Try.func35, Try.ntmps35
        go_wp2_with (go_at_call 40; refine (K4 _).mono ?_; rintro e w' ⟨rfl, rfl⟩)
        go_ret
        exact ⟨by first | rfl | (rw [hd]; rfl), (Fr.refl _ _).alloc _⟩
    · have hd : (!sizedB f n) = true := by
        have hz : ¬ n = 0 := by omega
        simp [sizedB, h, hz, hm]
      have hm' : ((n : Int) % 6 != 0) = true := by simp; omega
      go_enter Try.func35, Try.ntmps35
      go_wp2
      go_ret
      exact ⟨by first | rfl | (rw [hd]; rfl), (Fr.refl _ _).alloc _⟩
  case' inr.inr.inl => have hd : (!sizedB f n) = ((n : Int) != 5) := by rw [Bool.eq_iff_iff]; simp [sizedB, h]; omega
  case' inr.inr.inr.inl => have hd : (!sizedB f n) = ((n : Int) != 4) := by rw [Bool.eq_iff_iff]; simp [sizedB, h]; omega
  case' inr.inr.inr.inr.inr.inr.inl => have hd : (!sizedB f n) = ((n : Int) != 8) := by rw [Bool.eq_iff_iff]; simp [sizedB, h]; omega
  case' inr.inr.inr.inr.inr.inr.inr.inl => have hd : (!sizedB f n) = decide ((n : Int) < 8) := by rw [Bool.eq_iff_iff]; simp [sizedB, h]; omega
  case' inr.inr.inr.inr.inr.inr.inr.inr.inl => have hd : (!sizedB f n) = ((n : Int) != 4) := by rw [Bool.eq_iff_iff]; simp [sizedB, h]; omega
  case' inl => have hd : (!sizedB f n) = false := by simp [sizedB, h]
  case' inr.inl => have hd : (!sizedB f n) = false := by simp [sizedB, h]
  case' inr.inr.inr.inr.inr.inl => have hd : (!sizedB f n) = false := by simp [sizedB, h]
  case' inr.inr.inr.inr.inr.inr.inr.inr.inr.inl => have hd : (!sizedB f n) = false := by simp [sizedB, h]
  case' inr.inr.inr.inr.inr.inr.inr.inr.inr.inr => have hd : (!sizedB f n) = false := by simp [sizedB, *]
  all_goals
    clear K4
    go_enter Try.func35, Try.ntmps35
    go_wp2
    go_ret
    exact ⟨by first | rfl | (rw [hd]; rfl), (Fr.refl _ _).alloc _⟩

theorem prior_in (f : Fra) (p q : Option Addr) (cp cq : Nat) (a : Option Addr) (len cap : Nat) (b : List UInt8) (w : World) (hs : SrcAt w a b) (hl : b.length = len) (h4 : 5 ≤ len) (hm : len ≤ 9223372036854775807) :
    Calls Try.prog 51 #[.agg #[.int .i64 f.k, .int .i64 f.fl, .int .i64 f.st, .slice p f.X.length cp, .int .i64 f.pad, .int .u32 f.code, .int .i64 f.last, .int .i64 f.inc, .int .i64 f.dep, .bool f.only, .int .i64 f.wt, .slice q f.Y.length cq], .slice a len cap] w fun e w' => e = .returned (.agg #[.int .i64 (rdP 2 f b).k, .int .i64 (rdP 2 f b).fl, .int .i64 (rdP 2 f b).st, .slice p (rdP 2 f b).X.length cp, .int .i64 (rdP 2 f b).pad, .int .u32 (rdP 2 f b).code, .int .i64 (rdP 2 f b).last, .int .i64 (rdP 2 f b).inc, .int .i64 (rdP 2 f b).dep, .bool (rdP 2 f b).only, .int .i64 (rdP 2 f b).wt, .slice q (rdP 2 f b).Y.length cq]) ∧ Fr (fun _ => False) w w' := by
  obtain ⟨W, hW⟩ : ∃ W, W = (w.alloc (.cells #[.int .i64 f.k, .int .i64 f.fl, .int .i64 f.st, .slice p f.X.length cp, .int .i64 f.pad, .int .u32 f.code, .int .i64 f.last, .int .i64 f.inc, .int .i64 f.dep, .bool f.only, .int .i64 f.wt, .slice q f.Y.length cq] 36)).alloc (.cells #[.int .i64 0, .int .i64 0, .int .i64 0, .slice none 0 0, .int .i64 0, .int .u32 0, .int .i64 0, .int .i64 0, .int .i64 0, .bool false, .int .i64 0, .slice none 0 0] 36) := ⟨_, rfl⟩
  have HFW : Hid (Fr (fun _ => False) w W) := by rw [hW]; exact ((Fr.refl _ _).alloc _).alloc _
  have hA : FAt W w.heap.size f p cp q cq := by rw [hW]; exact past_at _ (heap_alloc_new w _)
  have hR : W.heap[w.heap.size + 1]? = some (.cells #[.int .i64 0, .int .i64 0, .int .i64 0, .slice none 0 0, .int .i64 0, .int .u32 0, .int .i64 0, .int .i64 0, .int .i64 0, .bool false, .int .i64 0, .slice none 0 0] 36 (0, 0)) := by rw [hW]; exact last_at _ (by simp)
  have K1 : Hid (Calls Try.prog 49 #[.slice a len cap, .int .i64 0] W fun e w2 => e = .returned (.tuple #[.int .i64 ((num (b.take 4) % 2147483648 : Nat) : Int), .int .i64 4, .int .i64 0]) ∧ Fr (fun _ => False) W w2) := by
    have h := RU31 a len cap ((0 : Nat) : Int) W b (hs.oldF HFW.out) hl hm
    rw [read_at 4 0 b (by omega)] at h
    refine h.mono ?_
    rintro e w2 ⟨he, rfl⟩
    exact ⟨he, Fr.refl _ _⟩
  obtain ⟨ad, rfl, -⟩ := hs 0 _ (getD_some b 0 (by omega))
  have hadb : ad.block < w.heap.size := by
    obtain ⟨ad', e, hc⟩ := hs 0 _ (getD_some b 0 (by omega))
    cases e
    have := World.block_lt_of_cell? _ _ hc
    simpa [Addr.add] using this
  have hne : ad.block ≠ w.heap.size := by omega
  have hd : rdP 2 f b = { f with dep := ((num (b.take 4) % 2147483648 : Nat) : Int), only := decide (128 ≤ (b.getD 0 0).toNat), wt := (((b.getD 4 0).toNat : Nat) : Int) + 1 } := by simp [rdP]
  rw [hd]
  have HC : Hid (∀ w', Fr (fun k => k = w.heap.size) W w' → w'.cell? ⟨ad.block, ad.off + 0, none⟩ = some (.int .u8 (b.getD 0 0).toNat) ∧ w'.cell? ⟨ad.block, ad.off + 4, none⟩ = some (.int .u8 (b.getD 4 0).toNat)) := fun w' hf =>
    ⟨src_at ((hs.oldF HFW.out).fr hf (fun a e _ => by cases e; exact hne)) rfl 0 (by omega), src_at ((hs.oldF HFW.out).fr hf (fun a e _ => by cases e; exact hne)) rfl 4 (by omega)⟩
  have hspot : ad.spot = none := by
    obtain ⟨ad', e, hc⟩ := hs 0 _ (getD_some b 0 (by omega))
    cases e
    have := World.cell?_spot hc
    simpa [Addr.add] using this
  obtain ⟨bb, oo, ss⟩ := ad
  dsimp only at hspot
  subst hspot
  obtain ⟨N, hN⟩ : ∃ N, num (b.take 4) % 2147483648 = N := ⟨_, rfl⟩
  obtain ⟨x0, hx0⟩ : ∃ x, b.getD 0 0 = x := ⟨_, rfl⟩
  obtain ⟨x4, hx4⟩ : ∃ x, b.getD 4 0 = x := ⟨_, rfl⟩
  rw [hN] at K1 ⊢
  rw [hx0, hx4] at HC ⊢
  have u0 := x0.toNat_lt
  have u4 := x4.toNat_lt
  have e7 : decide ((128 : Int) ≤ (x0.toNat : Int)) = decide (128 ≤ x0.toNat) := by
    rw [Bool.eq_iff_iff]
    simp
    omega
  have HA : Hid (FAt W w.heap.size f p cp q cq) := hA
  have HR : Hid (∀ w', Fr (fun k => k = w.heap.size) W w' → w'.heap[w.heap.size + 1]? = some (.cells #[.int .i64 0, .int .i64 0, .int .i64 0, .slice none 0 0, .int .i64 0, .int .u32 0, .int .i64 0, .int .i64 0, .int .i64 0, .bool false, .int .i64 0, .slice none 0 0] 36 (0, 0))) := fun w' hf => (hf.block _ (lt_of_heap hR) (by omega)).trans hR
  dsimp only at HC
  clear hA hR hs hl hN hd hx0 hx4 hne hadb
  go_enter Try.func51, Try.ntmps51
  go_wp2_with (fail)
  rw [← hW]
  clear hW
  refine K1.out.mono ?_
  rintro e w1 ⟨rfl, hf1⟩
  have A1 : FAt w1 w.heap.size f p cp q cq := HA.out.later hf1
  have F1 : Hid (Fr (fun k => k = w.heap.size) W w1) := hf1.mono (fun _ _ e => e.elim)
  obtain ⟨c0, c1, c2, c3, c4, c5, c6, c7, c8, c9', c10', c11⟩ := fcells A1
  have z8 : w1.frozen? ⟨w.heap.size, 8, none⟩ = false := frozen_of_heap A1
  have A2 : FAt (w1.setCell ⟨w.heap.size, 8, none⟩ (.int .i64 (N : Int))) w.heap.size { f with dep := (N : Int) } p cp q cq := block_set A1
  have F2 : Hid (Fr (fun k => k = w.heap.size) W (w1.setCell ⟨w.heap.size, 8, none⟩ (.int .i64 (N : Int)))) := F1.out.setB _ _
  have A3 : FAt ((w1.setCell ⟨w.heap.size, 8, none⟩ (.int .i64 (N : Int))).setCell ⟨w.heap.size, 9, none⟩ (.bool (decide (128 ≤ x0.toNat)))) w.heap.size { f with dep := (N : Int), only := decide (128 ≤ x0.toNat) } p cp q cq := block_set A2
  have F3 : Hid (Fr (fun k => k = w.heap.size) W ((w1.setCell ⟨w.heap.size, 8, none⟩ (.int .i64 (N : Int))).setCell ⟨w.heap.size, 9, none⟩ (.bool (decide (128 ≤ x0.toNat))))) := F2.out.setB _ _
  have A4 : FAt (((w1.setCell ⟨w.heap.size, 8, none⟩ (.int .i64 (N : Int))).setCell ⟨w.heap.size, 9, none⟩ (.bool (decide (128 ≤ x0.toNat)))).setCell ⟨w.heap.size, 10, none⟩ (.int .i64 ((x4.toNat : Int) + 1))) w.heap.size { f with dep := (N : Int), only := decide (128 ≤ x0.toNat), wt := (x4.toNat : Int) + 1 } p cp q cq := block_set A3
  have F4 : Hid (Fr (fun k => k = w.heap.size) W (((w1.setCell ⟨w.heap.size, 8, none⟩ (.int .i64 (N : Int))).setCell ⟨w.heap.size, 9, none⟩ (.bool (decide (128 ≤ x0.toNat)))).setCell ⟨w.heap.size, 10, none⟩ (.int .i64 ((x4.toNat : Int) + 1)))) := F3.out.setB _ _
  have d0 := (HC.out _ F2.out).1
  have d0' : (w1.setCell ⟨w.heap.size, 8, none⟩ (.int .i64 (N : Int))).cell? ⟨bb, oo, none⟩ = some (.int .u8 x0.toNat) := d0
  have d4 := (HC.out _ F3.out).2
  have c9 : (w1.setCell ⟨w.heap.size, 8, none⟩ (.int .i64 (N : Int))).cell? ⟨w.heap.size, 9, none⟩ = some (.bool f.only) := cell_of_heap A2 rfl
  have z9 : (w1.setCell ⟨w.heap.size, 8, none⟩ (.int .i64 (N : Int))).frozen? ⟨w.heap.size, 9, none⟩ = false := frozen_of_heap A2
  have c10 : ((w1.setCell ⟨w.heap.size, 8, none⟩ (.int .i64 (N : Int))).setCell ⟨w.heap.size, 9, none⟩ (.bool (decide (128 ≤ x0.toNat)))).cell? ⟨w.heap.size, 10, none⟩ = some (.int .i64 f.wt) := cell_of_heap A3 rfl
  have z10 : ((w1.setCell ⟨w.heap.size, 8, none⟩ (.int .i64 (N : Int))).setCell ⟨w.heap.size, 9, none⟩ (.bool (decide (128 ≤ x0.toNat)))).frozen? ⟨w.heap.size, 10, none⟩ = false := frozen_of_heap A3
  have HA4 : Hid (FAt (((w1.setCell ⟨w.heap.size, 8, none⟩ (.int .i64 (N : Int))).setCell ⟨w.heap.size, 9, none⟩ (.bool (decide (128 ≤ x0.toNat)))).setCell ⟨w.heap.size, 10, none⟩ (.int .i64 ((x4.toNat : Int) + 1))) w.heap.size { f with dep := (N : Int), only := decide (128 ≤ x0.toNat), wt := (x4.toNat : Int) + 1 } p cp q cq) := A4
  clear d0 hf1 A1 A2 A3 A4
  have hone : (#[.int .i64 f.k, .int .i64 f.fl, .int .i64 f.st, .slice p f.X.length cp, .int .i64 f.pad, .int .u32 f.code, .int .i64 f.last, .int .i64 f.inc, .int .i64 (N : Int), .bool (decide (128 ≤ x0.toNat)), .int .i64 ((x4.toNat : Int) + 1), .slice q f.Y.length cq] : Array Value).all (·.oneCell') = true := by simp [Value.oneCell']
  have HR4 := HR.out _ F4.out
  have HF4 : Hid (Fr (fun k => k = w.heap.size) w _) := (HFW.out.mono (fun _ _ e => e.elim)).trans F4.out
  clear F1 F2 F3
  go_wp2_with (refine wpList_storeB rfl 36 (.tmp 4) (.tmp 23) rfl (w.heap.size + 1) #[.int .i64 0, .int .i64 0, .int .i64 0, .slice none 0 0, .int .i64 0, .int .u32 0, .int .i64 0, .int .i64 0, .int .i64 0, .bool false, .int .i64 0, .slice none 0 0] #[.int .i64 f.k, .int .i64 f.fl, .int .i64 f.st, .slice p f.X.length cp, .int .i64 f.pad, .int .u32 f.code, .int .i64 f.last, .int .i64 f.inc, .int .i64 (N : Int), .bool (decide (128 ≤ x0.toNat)), .int .i64 ((x4.toNat : Int) + 1), .slice q f.Y.length cq] 36 rfl rfl HR4 rfl (by kernel_rfl) hone ?_; intro w5 H5 F5)
  obtain ⟨r0, r1, r2, r3, r4, r5, r6, r7, r8, r9, r10, r11⟩ := fcells (f := { f with dep := (N : Int), only := decide (128 ≤ x0.toNat), wt := (x4.toNat : Int) + 1 }) (p := p) (cp := cp) (q := q) (cq := cq) H5.out
  refine bodyPost_ret (v := .agg #[.int .i64 f.k, .int .i64 f.fl, .int .i64 f.st, .slice p f.X.length cp, .int .i64 f.pad, .int .u32 f.code, .int .i64 f.last, .int .i64 f.inc, .int .i64 (N : Int), .bool (decide (128 ≤ x0.toNat)), .int .i64 ((x4.toNat : Int) + 1), .slice q f.Y.length cq]) (by simp [results, Try.results51, go_sem, r0, r1, r2, r3, r4, r5, r6, r7, r8, r9, r10, r11]) rfl ?_
  refine ⟨rfl, ?_⟩
  exact ((HF4.out.mono (T := fun k => k = w.heap.size ∨ k = w.heap.size + 1) (fun _ _ e => .inl e)).trans (F5.out.mono (fun _ _ e => .inr e))).mono (fun k hk e => by omega)
end Go.Proofs.Ytikaefjhmgcidaa
/- A frame's parts, by the document: what they are. -/
namespace Go.Proofs.Ytikaefjhmgcidaa
open Go.RowKit
set_option linter.unusedVariables false
set_option maxRecDepth 100000
set_option maxHeartbeats 4000000

/-- A cut from the beginning. -/
theorem cutUpto (a : Option Addr) (len cap hi : Nat) (h2 : hi ≤ cap) : ∀ w, (Instr.slice 31 (.slice a len cap) none (some (.int .i64 (hi : Int))) none).run Try.prog w = .ok (.slice a hi cap) w := by
  intro w
  have hsz : (Try.prog.info? 5).map (·.size) = some 1 := by kernel_rfl
  have hb1 := run_sliceBound (P := Try.prog) (w := w) .i64 (hi : Int) cap .sliceAcap (by omega) (by omega)
  have ha : ∀ ad : Addr, ad.add 0 = ad := fun ad => by simp [Addr.add]
  cases hi5 : Try.prog.info? 5 with
  | none => simp [hi5] at hsz
  | some i => cases a <;> simp [Instr.slice, run_underlying Try.underlying31, Instr.sliceBounds, hb1, sizeOf, typeInfo, hi5, ha]
/-- A cut from lo on. -/
theorem cutF (a : Option Addr) (len cap lo : Nat) (b : List UInt8) (hl : b.length = len) (hc : len ≤ cap) (h1 : lo ≤ len) : ∃ dp : Option Addr,
    (∀ w, (Instr.slice 31 (.slice a len cap) (some (.int .i64 (lo : Int))) none none).run Try.prog w = .ok (.slice dp (len - lo) (cap - lo)) w) ∧
    (∀ w, SrcAt w a b → SrcAt w dp (b.drop lo)) := by
  have hsz : (Try.prog.info? 5).map (·.size) = some 1 := by kernel_rfl
  have hb3 := fun w => run_sliceBound (P := Try.prog) (w := w) .i64 (lo : Int) len .sliceB (by omega) (by omega)
  cases hi5 : Try.prog.info? 5 with
  | none => simp [hi5] at hsz
  | some i =>
  have h1' : i.size = 1 := by simpa [hi5] using hsz
  cases a with
  | none =>
    refine ⟨none, fun w => ?_, fun w hs => ?_⟩
    · simp [Instr.slice, run_underlying Try.underlying31, Instr.sliceBounds, hb3, sizeOf, typeInfo, hi5]
    · have h0 : b = [] := by
        cases b with
        | nil => rfl
        | cons x r => obtain ⟨ad, e, _⟩ := hs 0 x rfl; cases e
      subst h0
      simpa using SrcAt.nil w none
  | some ad =>
    refine ⟨if cap = lo then some ad else some (ad.add lo), fun w => ?_, fun w hs => ?_⟩
    · simp [Instr.slice, run_underlying Try.underlying31, Instr.sliceBounds, hb3, sizeOf, typeInfo, hi5, h1']
    · by_cases he : cap = lo
      · rw [if_pos he, List.drop_of_length_le (by omega)]
        exact SrcAt.nil _ _
      · rw [if_neg he]
        intro j c hj
        rw [List.getElem?_drop] at hj
        obtain ⟨ad', e, hcell⟩ := hs (lo + j) c hj
        cases e
        exact ⟨_, rfl, by rw [addr_add]; exact hcell⟩
/-- A cut from lo to hi. -/
theorem cutM (a : Option Addr) (len cap lo hi : Nat) (b : List UInt8) (hl : b.length = len) (hc : len ≤ cap) (h1 : lo ≤ hi) (h2 : hi ≤ len) : ∃ dp : Option Addr,
    (∀ w, (Instr.slice 31 (.slice a len cap) (some (.int .i64 (lo : Int))) (some (.int .i64 (hi : Int))) none).run Try.prog w = .ok (.slice dp (hi - lo) (cap - lo)) w) ∧
    (∀ w, SrcAt w a b → SrcAt w dp ((b.drop lo).take (hi - lo))) := by
  have hsz : (Try.prog.info? 5).map (·.size) = some 1 := by kernel_rfl
  have hb1 := fun w => run_sliceBound (P := Try.prog) (w := w) .i64 (hi : Int) cap .sliceAcap (by omega) (by omega)
  have hb3 := fun w => run_sliceBound (P := Try.prog) (w := w) .i64 (lo : Int) hi .sliceB (by omega) (by omega)
  cases hi5 : Try.prog.info? 5 with
  | none => simp [hi5] at hsz
  | some i =>
  have h1' : i.size = 1 := by simpa [hi5] using hsz
  cases a with
  | none =>
    refine ⟨none, fun w => ?_, fun w hs => ?_⟩
    · simp [Instr.slice, run_underlying Try.underlying31, Instr.sliceBounds, hb1, hb3, sizeOf, typeInfo, hi5]
    · have h0 : b = [] := by
        cases b with
        | nil => rfl
        | cons x r => obtain ⟨ad, e, _⟩ := hs 0 x rfl; cases e
      subst h0
      simpa using SrcAt.nil w none
  | some ad =>
    refine ⟨if cap = lo then some ad else some (ad.add lo), fun w => ?_, fun w hs => ?_⟩
    · simp [Instr.slice, run_underlying Try.underlying31, Instr.sliceBounds, hb1, hb3, sizeOf, typeInfo, hi5, h1']
    · by_cases he : cap = lo
      · rw [if_pos he, List.drop_of_length_le (by omega)]
        simpa using SrcAt.nil w (some ad)
      · rw [if_neg he]
        refine SrcAt.take (X := b.drop lo) ?_ _
        intro j c hj
        rw [List.getElem?_drop] at hj
        obtain ⟨ad', e, hcell⟩ := hs (lo + j) c hj
        cases e
        exact ⟨_, rfl, by rw [addr_add]; exact hcell⟩
/-- What 'parts' answers: the padding's number, the fault's code (0: none), what is left. -/
def PtAs (w : World) (k fl st : Int) (x : Nat) (code : Int) (X : List UInt8) (e : Ending) (w' : World) : Prop :=
  ∃ a' n' c', e = .returned (.tuple #[.agg #[.int .i64 k, .int .i64 fl, .int .i64 st, .slice none 0 0, .int .i64 (x : Int), .int .u32 0, .int .i64 0, .int .i64 0, .int .i64 0, .bool false, .int .i64 0, .slice none 0 0], .slice a' n' c', .agg #[.bool (!(code == 0)), .int .i64 0, .int .i64 code]]) ∧ Fr (fun _ => False) w w' ∧ (code = 0 → SrcAt w' a' X ∧ X.length = n' ∧ n' ≤ c')

end Go.Proofs.Ytikaefjhmgcidaa
