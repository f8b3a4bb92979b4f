/- Contract of the reader's closure that takes one frame more. -/
import Derived.Test.YtikaefjhmgcidaaZMXp
import Derived.Test.YtikaefjhmgcidaaZFp
import Derived.Test.YtikaefjhmgcidaaZMPl
import Derived.Test.YtikaefjhmgcidaaZRx
import Derived.Deep.DeepCutAuto
namespace Go.Proofs.Ytikaefjhmgcidaa
open Go.RowKit
set_option linter.unusedVariables false
set_option maxRecDepth 100000
set_option maxHeartbeats 4000000

theorem srcB_lt {w : World} {p : Option Addr} {X : List UInt8} (hs : SrcAt w p X) : ∀ ad, p = some ad → 0 < X.length → ad.block < w.heap.size := by
  intro ad e hl
  obtain ⟨ad', e', hc⟩ := hs 0 _ (getD_some X 0 hl)
  rw [e] at e'
  cases e'
  have := World.block_lt_of_cell? _ _ hc
  have hb : (ad.add 0).block = ad.block := by unfold Addr.add; split <;> rfl
  omega
theorem sets_lt {w : World} {q : Option Addr} {cq : Nat} {Y : List (Int × Nat)} (hs : SetsAt w q cq Y) : ∀ ad, q = some ad → 0 < Y.length → ad.block < w.heap.size := by
  intro ad e hl
  obtain ⟨b, o, e', hb, -⟩ := hs.cells 0 Y[0] (by simp)
  rw [e] at e'
  cases e'
  exact hb
/-- Where the closure stands behind Parse: the reader, its box, the frame and the fault that Parse answered. -/
structure TkF (W : World) (g gb : Nat) (most : Int) (v : Value) (at_ : Nat) (X : Flt) (gf : Fra) (fo : Flt) (p : Option Addr) (cp : Nat) (q : Option Addr) (cq b4 b6 : Nat) (wc : World) : Prop where
  rd : RdC wc g most v at_ X
  bx : wc.heap[gb]? = some (.cells #[.pointer (some ⟨g, 0, none⟩)] 23 (0, 0))
  a4 : FAt wc b4 gf p cp q cq
  a6 : wc.heap[b6]? = some (.cells #[.bool fo.is, .int .i64 fo.st, .int .i64 fo.code] 38 (0, 0))
  src : SrcAt wc p gf.X
  sets : SetsAt wc q cq gf.Y
  fp : ∀ ad, p = some ad → 0 < gf.X.length → W.heap.size ≤ ad.block
  fq : ∀ ad, q = some ad → 0 < gf.Y.length → W.heap.size ≤ ad.block
  g4 : W.heap.size ≤ b4
  g6 : W.heap.size ≤ b6
  fr : Fr (fun _ => False) W wc
/-- What the closure answers. -/
def TookAs (w : World) (g : Nat) (most : Int) (v : Value) (at_ : Nat) (X : Flt) (u : Fra × Nat × Flt × Int) (e : Ending) (w' : World) : Prop :=
  Fr (fun k => k = g) w w' ∧ (u.2.2.2 ≠ 0 → e = .returned (.tuple #[.agg #[.int .i64 0, .int .i64 0, .int .i64 0, .slice none 0 0, .int .i64 0, .int .u32 0, .int .i64 0, .int .i64 0, .int .i64 0, .bool false, .int .i64 0, .slice none 0 0], .agg #[.bool false, .int .i64 0, .int .i64 0], .bool false]) ∧ RdC w' g most v at_ X) ∧
  (u.2.2.2 = 0 → ∃ p cp q cq, e = .returned (.tuple #[.agg #[.int .i64 u.1.k, .int .i64 u.1.fl, .int .i64 u.1.st, .slice p u.1.X.length cp, .int .i64 u.1.pad, .int .u32 u.1.code, .int .i64 u.1.last, .int .i64 u.1.inc, .int .i64 u.1.dep, .bool u.1.only, .int .i64 u.1.wt, .slice q u.1.Y.length cq], .agg #[.bool u.2.2.1.is, .int .i64 u.2.2.1.st, .int .i64 u.2.2.1.code], .bool true]) ∧ SrcAt w' p u.1.X ∧ SetsAt w' q cq u.1.Y ∧ (∀ ad, p = some ad → 0 < u.1.X.length → w.heap.size ≤ ad.block) ∧ (∀ ad, q = some ad → 0 < u.1.Y.length → w.heap.size ≤ ad.block) ∧
    RdC w' g most v (if u.2.2.1.is = true ∧ u.2.2.1.st = 0 then at_ else at_ + u.2.1) (if u.2.2.1.is = true ∧ u.2.2.1.st = 0 then u.2.2.1 else X))

theorem take_in (g gb : Nat) (most : Int) (a : Option Addr) (n c at_ : Nat) (X : Flt) (D : List UInt8) (w : World) (h : RdC w g most (.slice a n c) at_ X) (hbx : w.heap[gb]? = some (.cells #[.pointer (some ⟨g, 0, none⟩)] 23 (0, 0))) (ho : OwnAt w 5 (.slice a n c) (bv D)) (hat : at_ ≤ n) (hn : n ≤ 225179981368371) (hmost : (Lit.int .i64 most).wf = true) :
    Calls Try.prog 46 #[.pointer (some ⟨gb, 0, none⟩)] w fun e w' => TookAs w g most (.slice a n c) at_ X (parseO (D.drop at_) most) e w' := by
  obtain ⟨W, hW⟩ : ∃ W, W = (w.alloc (.cells #[.int .i64 0, .int .i64 0, .int .i64 0, .slice none 0 0, .int .i64 0, .int .u32 0, .int .i64 0, .int .i64 0, .int .i64 0, .bool false, .int .i64 0, .slice none 0 0] 36)).alloc (.cells #[.bool false, .int .i64 0, .int .i64 0] 38) := ⟨_, rfl⟩
  have HFW : Hid (Fr (fun _ => False) w W) := by rw [hW]; exact ((Fr.refl _ _).alloc _).alloc _
  have HWS : Hid (W.heap.size = w.heap.size + 2) := by rw [hW]; show _ = _; simp
  have hr1 : W.heap[w.heap.size]? = some (.cells #[.int .i64 0, .int .i64 0, .int .i64 0, .slice none 0 0, .int .i64 0, .int .u32 0, .int .i64 0, .int .i64 0, .int .i64 0, .bool false, .int .i64 0, .slice none 0 0] 36 (0, 0)) := by rw [hW]; exact past_at _ (heap_alloc_new w _)
  have hr2 : W.heap[w.heap.size + 1]? = some (.cells #[.bool false, .int .i64 0, .int .i64 0] 38 (0, 0)) := by rw [hW]; exact last_at _ (by simp)
  have HRES : Hid (∀ (S : Nat → Prop) w', Fr S W w' → ¬ S w.heap.size → ¬ S (w.heap.size + 1) → w'.heap[w.heap.size]? = some (.cells #[.int .i64 0, .int .i64 0, .int .i64 0, .slice none 0 0, .int .i64 0, .int .u32 0, .int .i64 0, .int .i64 0, .int .i64 0, .bool false, .int .i64 0, .slice none 0 0] 36 (0, 0)) ∧ w'.heap[w.heap.size + 1]? = some (.cells #[.bool false, .int .i64 0, .int .i64 0] 38 (0, 0))) := fun S w' hf n1 n2 => ⟨(hf.block _ (lt_of_heap hr1) n1).trans hr1, (hf.block _ (lt_of_heap hr2) n2).trans hr2⟩
  have hDn : D.length = n := (own_len ho).1.symm
  obtain ⟨dp, hcut, hcs⟩ := own_cut ho at_ hat
  have HLT : Hid (g < w.heap.size ∧ gb < w.heap.size) := ⟨h.lt, lt_of_heap hbx⟩
  have hne : gb ≠ g := by rintro rfl; rw [RdC, hbx] at h; simp at h
  have HNE : Hid (gb ≠ g) := hne
  have HR0 : Hid (RdC W g most (.slice a n c) at_ X ∧ W.heap[gb]? = some (.cells #[.pointer (some ⟨g, 0, none⟩)] 23 (0, 0))) := ⟨h.fr HFW.out id, (HFW.out.block gb (lt_of_heap hbx) id).trans hbx⟩
  have HKEEP : Hid (∀ w', Fr (fun _ => False) W w' → RdC w' g most (.slice a n c) at_ X ∧ w'.heap[gb]? = some (.cells #[.pointer (some ⟨g, 0, none⟩)] 23 (0, 0))) := fun w' hf => ⟨HR0.out.1.fr hf id, (hf.block gb (lt_of_heap HR0.out.2) id).trans HR0.out.2⟩
  obtain ⟨⟨gf, en, fo, er⟩, hout⟩ : ∃ u, parseO (D.drop at_) most = u := ⟨_, rfl⟩
  have hdl : (D.drop at_).length = n - at_ := by rw [List.length_drop, hDn]
  have KP : Hid (∀ w', Fr (fun _ => False) W w' → Calls Try.prog 47 #[.slice dp (n - at_) (c - at_), .int .i64 most] w' fun e w2 => ParsedNew w' (gf, en, fo, er) e w2) := fun w' hf => by
    have hk := Parse_new dp (n - at_) (c - at_) (D.drop at_) most w' (hcs w' (own_src (ho.fr (HFW.out.trans hf) (fun _ _ => id)))) hdl (by have := (own_len ho).2; omega) (by omega) hmost
    rw [hout] at hk
    exact hk
  have HEN : Hid (er = 0 → en ≤ n - at_) := fun he => by
    have := (parse_more (B := D.drop at_) (most := most) (by rw [hout]; exact he)).1.2
    rw [hout, hdl] at this
    exact this
  rw [hout]
  clear hr1 hr2 hDn hcs hout hdl ho hbx h hne
  go_enter Try.func46, Try.ntmps46
  go_upto_region 1 with (fail)
  rw [← hW]
  clear hW
  go_cut [4, 5, 6, 7] (fun s4 s5 s6 s7 wc => ∃ (b4 b6 : Nat) (p : Option Addr) (cp : Nat) (q : Option Addr) (cq : Nat), s4 = .pointer (some ⟨b4, 0, none⟩) ∧ s5 = .int .i64 (en : Int) ∧ s6 = .pointer (some ⟨b6, 0, none⟩) ∧ s7 = .int .i64 er ∧ Hid (TkF W g gb most (.slice a n c) at_ X gf fo p cp q cq b4 b6 wc))
  case first =>
    refine wp_region_held_drew (S := fun w2 => RdC w2 g most (.slice a n c) at_ X ∧ w2.heap[gb]? = some (.cells #[.pointer (some ⟨g, 0, none⟩)] 23 (0, 0))) (by kernel_rfl) (HKEEP.out _ ((Fr.refl _ _).drew)) (fun hHeld => ?_)
    refine wpAnyH_take (i := 0) (oi := _) (v := .pointer (some ⟨g, 0, none⟩)) rfl (by kernel_rfl) (by kernel_rfl) (by kernel_rfl) (fun _ _ _ h => h) (Or.inl ⟨by kernel_rfl, fun w2 hw => by have bx := cell_of_heap (i := 0) hw.2 rfl; go_simp⟩) hHeld ?_
    refine wpAnyH_take (i := 1) (oi := _) (v := .pointer (some ⟨g, 0, none⟩)) rfl (by kernel_rfl) (by kernel_rfl) (by kernel_rfl) (fun _ _ _ h => h) (Or.inl ⟨by kernel_rfl, fun w2 hw => by go_simp⟩) hHeld ?_
    refine wpAnyH_take (i := 2) (oi := _) (v := .pointer (some ⟨g, 1, none⟩)) rfl (by kernel_rfl) (by kernel_rfl) (by kernel_rfl) (fun _ _ _ h => h) (Or.inl ⟨by kernel_rfl, fun w2 hw => by go_simp⟩) hHeld ?_
    refine wpAnyH_take (i := 3) (oi := _) (v := .slice a n c) rfl (by kernel_rfl) (by kernel_rfl) (by kernel_rfl) (fun _ _ _ h => h) (Or.inl ⟨by kernel_rfl, fun w2 hw => by obtain ⟨c0, c1, c2, c3, c4, c5⟩ := rcells hw.1; go_simp⟩) hHeld ?_
    refine wpAnyH_take (i := 4) (oi := _) (v := .pointer (some ⟨g, 0, none⟩)) rfl (by kernel_rfl) (by kernel_rfl) (by kernel_rfl) (fun _ _ _ h => h) (Or.inl ⟨by kernel_rfl, fun w2 hw => by have bx := cell_of_heap (i := 0) hw.2 rfl; go_simp⟩) hHeld ?_
    refine wpAnyH_take (i := 5) (oi := _) (v := .pointer (some ⟨g, 0, none⟩)) rfl (by kernel_rfl) (by kernel_rfl) (by kernel_rfl) (fun _ _ _ h => h) (Or.inl ⟨by kernel_rfl, fun w2 hw => by go_simp⟩) hHeld ?_
    refine wpAnyH_take (i := 6) (oi := _) (v := .pointer (some ⟨g, 2, none⟩)) rfl (by kernel_rfl) (by kernel_rfl) (by kernel_rfl) (fun _ _ _ h => h) (Or.inl ⟨by kernel_rfl, fun w2 hw => by go_simp⟩) hHeld ?_
    refine wpAnyH_take (i := 7) (oi := _) (v := .int .i64 (at_ : Int)) rfl (by kernel_rfl) (by kernel_rfl) (by kernel_rfl) (fun _ _ _ h => h) (Or.inl ⟨by kernel_rfl, fun w2 hw => by obtain ⟨c0, c1, c2, c3, c4, c5⟩ := rcells hw.1; go_simp⟩) hHeld ?_
    refine wpAnyH_take (i := 8) (oi := _) (v := .slice dp (n - at_) (c - at_)) rfl (by kernel_rfl) (by kernel_rfl) (by kernel_rfl) (fun _ _ _ h => h) (Or.inl ⟨by kernel_rfl, fun w2 hw => by go_simp⟩) hHeld ?_
    refine wpAnyH_take (i := 9) (oi := _) (v := .pointer (some ⟨g, 0, none⟩)) rfl (by kernel_rfl) (by kernel_rfl) (by kernel_rfl) (fun _ _ _ h => h) (Or.inl ⟨by kernel_rfl, fun w2 hw => by have bx := cell_of_heap (i := 0) hw.2 rfl; go_simp⟩) hHeld ?_
    refine wpAnyH_take (i := 10) (oi := _) (v := .pointer (some ⟨g, 0, none⟩)) rfl (by kernel_rfl) (by kernel_rfl) (by kernel_rfl) (fun _ _ _ h => h) (Or.inl ⟨by kernel_rfl, fun w2 hw => by go_simp⟩) hHeld ?_
    refine wpAnyH_take (i := 11) (oi := _) (v := .pointer (some ⟨g, 0, none⟩)) rfl (by kernel_rfl) (by kernel_rfl) (by kernel_rfl) (fun _ _ _ h => h) (Or.inl ⟨by kernel_rfl, fun w2 hw => by go_simp⟩) hHeld ?_
    refine wpAnyH_take (i := 12) (oi := _) (v := .int .i64 most) rfl (by kernel_rfl) (by kernel_rfl) (by kernel_rfl) (fun _ _ _ h => h) (Or.inl ⟨by kernel_rfl, fun w2 hw => by obtain ⟨c0, c1, c2, c3, c4, c5⟩ := rcells hw.1; go_simp⟩) hHeld ?_
    simp only [Act.put, List.getElem_toArray, List.getElem_cons_succ, List.getElem_cons_zero, List.setIfInBounds_toArray, List.set_cons_zero, List.set_cons_succ]
    obtain ⟨w0, hw0⟩ : ∃ w0, w0 = W.drew := ⟨_, rfl⟩
    have F0 : Hid (Fr (fun _ => False) W w0) := by rw [hw0]; exact (Fr.refl _ _).drew
    rw [← hw0] at hHeld ⊢
    clear hw0
    refine wpAnyH_ready (rs := [13, 19, 20]) (by kernel_rfl) (by simp) ?_
    refine AllReadyH.cons rfl (fun K hK => ?_) (AllReadyH.cons rfl (fun K hK => ?_) (AllReadyH.cons rfl (fun K hK => ?_) AllReadyH.nil))
    · go_simp
      refine (KP.out _ F0.out).mono ?_
      rintro e w1 ⟨p, cp, q, cq, rfl, hX1, hY1, hf1, hp1, hq1⟩
      have F1 : Hid (Fr (fun _ => False) W w1) := F0.out.trans hf1
      have P1 : Hid (SrcAt w1 p gf.X ∧ SetsAt w1 q cq gf.Y ∧ (∀ ad, p = some ad → 0 < gf.X.length → w0.heap.size ≤ ad.block ∧ ad.block < w1.heap.size) ∧ (∀ ad, q = some ad → 0 < gf.Y.length → w0.heap.size ≤ ad.block ∧ ad.block < w1.heap.size)) := ⟨hX1, hY1, fun ad e hl => ⟨hp1 ad e hl, srcB_lt hX1 ad e hl⟩, fun ad e hl => ⟨hq1 ad e hl, sets_lt hY1 ad e hl⟩⟩
      have Z1 : Hid (w0.heap.size ≤ w1.heap.size) := hf1.size
      refine hK.out _ _ (HKEEP.out _ F1.out) (fun hHeld1 => ?_)
      clear hK K hX1 hY1 hf1 hp1 hq1
      refine wpAnyH_take (i := 14) (oi := _) (v := .tuple #[.agg #[.int .i64 gf.k, .int .i64 gf.fl, .int .i64 gf.st, .slice p gf.X.length cp, .int .i64 gf.pad, .int .u32 gf.code, .int .i64 gf.last, .int .i64 gf.inc, .int .i64 gf.dep, .bool gf.only, .int .i64 gf.wt, .slice q gf.Y.length cq], .int .i64 (en : Int), .agg #[.bool fo.is, .int .i64 fo.st, .int .i64 fo.code], .int .i64 er]) rfl (by kernel_rfl) (by kernel_rfl) (by kernel_rfl) (fun _ _ _ h => h) (Or.inl ⟨by kernel_rfl, fun w2 hw => by go_simp⟩) hHeld1 ?_
      refine wpAnyH_take (i := 15) (oi := _) (v := .agg #[.int .i64 gf.k, .int .i64 gf.fl, .int .i64 gf.st, .slice p gf.X.length cp, .int .i64 gf.pad, .int .u32 gf.code, .int .i64 gf.last, .int .i64 gf.inc, .int .i64 gf.dep, .bool gf.only, .int .i64 gf.wt, .slice q gf.Y.length cq]) rfl (by kernel_rfl) (by kernel_rfl) (by kernel_rfl) (fun _ _ _ h => h) (Or.inl ⟨by kernel_rfl, fun w2 hw => by go_simp⟩) hHeld1 ?_
      refine wpAnyH_take (i := 16) (oi := _) (v := .int .i64 (en : Int)) rfl (by kernel_rfl) (by kernel_rfl) (by kernel_rfl) (fun _ _ _ h => h) (Or.inl ⟨by kernel_rfl, fun w2 hw => by go_simp⟩) hHeld1 ?_
      refine wpAnyH_take (i := 17) (oi := _) (v := .agg #[.bool fo.is, .int .i64 fo.st, .int .i64 fo.code]) rfl (by kernel_rfl) (by kernel_rfl) (by kernel_rfl) (fun _ _ _ h => h) (Or.inl ⟨by kernel_rfl, fun w2 hw => by go_simp⟩) hHeld1 ?_
      refine wpAnyH_take (i := 18) (oi := _) (v := .int .i64 er) rfl (by kernel_rfl) (by kernel_rfl) (by kernel_rfl) (fun _ _ _ h => h) (Or.inl ⟨by kernel_rfl, fun w2 hw => by go_simp⟩) hHeld1 ?_
      simp only [Act.put, List.getElem_toArray, List.getElem_cons_succ, List.getElem_cons_zero, List.setIfInBounds_toArray, List.set_cons_zero, List.set_cons_succ]
      refine wpAnyH_ready (rs := [19, 20]) (by kernel_rfl) (by simp) ?_
      refine AllReadyH.cons rfl (fun K hK => ?_) (AllReadyH.cons rfl (fun K hK => ?_) AllReadyH.nil)
      · go_simp
        refine hK.out _ _ (HKEEP.out _ (F1.out.alloc _)) (fun hHeld2 => ?_)
        clear hK K
        obtain ⟨w2, hw2⟩ : ∃ w2, w2 = w1.alloc (.cells #[.int .i64 0, .int .i64 0, .int .i64 0, .slice none 0 0, .int .i64 0, .int .u32 0, .int .i64 0, .int .i64 0, .int .i64 0, .bool false, .int .i64 0, .slice none 0 0] 36) := ⟨_, rfl⟩
        obtain ⟨ab4, hab4⟩ : ∃ ab4, ab4 = w1.heap.size := ⟨_, rfl⟩
        have A4_2 : Hid (w2.heap[ab4]? = some (.cells #[.int .i64 0, .int .i64 0, .int .i64 0, .slice none 0 0, .int .i64 0, .int .u32 0, .int .i64 0, .int .i64 0, .int .i64 0, .bool false, .int .i64 0, .slice none 0 0] 36 (0, 0))) := by rw [hw2, hab4]; exact heap_alloc_new _ _
        have F2 : Hid (Fr (fun _ => False) W w2) := by rw [hw2]; exact F1.out.alloc _
        have fa2 : Fr (fun _ => False) w1 w2 := by rw [hw2]; exact (Fr.refl _ _).alloc _
        have Z2 : Hid (ab4 = w1.heap.size ∧ ab4 < w2.heap.size ∧ w1.heap.size ≤ w2.heap.size) := ⟨hab4, lt_of_heap A4_2.out, fa2.size⟩
        have P2 : Hid (SrcAt w2 p gf.X ∧ SetsAt w2 q cq gf.Y ∧ True) := ⟨P1.out.1.oldF fa2, P1.out.2.1.later fa2, trivial⟩
        rw [← hab4, ← hw2]
        rw [← hw2] at hHeld2
        clear hw2 hab4 fa2
        refine wpAnyH_ready (rs := [20]) (by kernel_rfl) (by simp) ?_
        refine AllReadyH.cons rfl (fun K hK => ?_) AllReadyH.nil
        · go_simp
          refine hK.out _ _ (HKEEP.out _ (F2.out.alloc _)) (fun hHeld3 => ?_)
          clear hK K
          obtain ⟨w3, hw3⟩ : ∃ w3, w3 = w2.alloc (.cells #[.bool false, .int .i64 0, .int .i64 0] 38) := ⟨_, rfl⟩
          obtain ⟨ab6, hab6⟩ : ∃ ab6, ab6 = w2.heap.size := ⟨_, rfl⟩
          have A6_3 : Hid (w3.heap[ab6]? = some (.cells #[.bool false, .int .i64 0, .int .i64 0] 38 (0, 0))) := by rw [hw3, hab6]; exact heap_alloc_new _ _
          have F3 : Hid (Fr (fun _ => False) W w3) := by rw [hw3]; exact F2.out.alloc _
          have fa3 : Fr (fun _ => False) w2 w3 := by rw [hw3]; exact (Fr.refl _ _).alloc _
          have Z3 : Hid (ab6 = w2.heap.size ∧ ab6 < w3.heap.size ∧ w2.heap.size ≤ w3.heap.size) := ⟨hab6, lt_of_heap A6_3.out, fa3.size⟩
          have A4_3 : Hid (w3.heap[ab4]? = some (.cells #[.int .i64 0, .int .i64 0, .int .i64 0, .slice none 0 0, .int .i64 0, .int .u32 0, .int .i64 0, .int .i64 0, .int .i64 0, .bool false, .int .i64 0, .slice none 0 0] 36 (0, 0))) := (fa3.block _ (lt_of_heap A4_2.out) id).trans A4_2.out
          have P3 : Hid (SrcAt w3 p gf.X ∧ SetsAt w3 q cq gf.Y ∧ True) := ⟨P2.out.1.oldF fa3, P2.out.2.1.later fa3, trivial⟩
          rw [← hab6, ← hw3]
          rw [← hw3] at hHeld3
          clear hw3 hab6 fa3
          have HB : ab4 ≠ ab6 ∧ W.heap.size ≤ ab4 ∧ W.heap.size ≤ ab6 := by have h0 := F0.out.size; have := Z1.out; have := Z2.out; have := Z3.out; omega
          have HPB : ∀ ad, p = some ad → 0 < gf.X.length → ad.block ≠ ab4 ∧ ad.block ≠ ab6 ∧ W.heap.size ≤ ad.block := fun ad e hl => by have h0 := F0.out.size; have h1 := P1.out.2.2.1 ad e hl; have := Z1.out; have := Z2.out; have := Z3.out; omega
          have HQB : ∀ ad, q = some ad → 0 < gf.Y.length → ad.block ≠ ab4 ∧ ad.block ≠ ab6 ∧ W.heap.size ≤ ad.block := fun ad e hl => by have h0 := F0.out.size; have h1 := P1.out.2.2.2 ad e hl; have := Z1.out; have := Z2.out; have := Z3.out; omega
          have HPS : Hid (SrcAt w3 p gf.X ∧ SetsAt w3 q cq gf.Y) := ⟨P3.out.1, P3.out.2.1⟩
          refine wpAnyH_ready (rs := [21]) (by kernel_rfl) (by simp) ?_
          refine AllReadyH.cons rfl (fun K hK => ?_) AllReadyH.nil
          refine stepR_storeB rfl rfl 36 (.tmp 4) (.tmp 23) rfl ab4 #[.int .i64 0, .int .i64 0, .int .i64 0, .slice none 0 0, .int .i64 0, .int .u32 0, .int .i64 0, .int .i64 0, .int .i64 0, .bool false, .int .i64 0, .slice none 0 0] #[.int .i64 gf.k, .int .i64 gf.fl, .int .i64 gf.st, .slice p gf.X.length cp, .int .i64 gf.pad, .int .u32 gf.code, .int .i64 gf.last, .int .i64 gf.inc, .int .i64 gf.dep, .bool gf.only, .int .i64 gf.wt, .slice q gf.Y.length cq] 36 rfl rfl A4_3.out rfl (by kernel_rfl) (by simp [Value.oneCell']) ?_
          intro y1 H1 G1
          have F1y : Fr (fun k => W.heap.size ≤ k) W y1 := (F3.out.mono (T := fun k => W.heap.size ≤ k) (fun _ _ e => e.elim)).trans (G1.out.mono (fun k _ e => by omega))
          refine hK.out _ _ (HKEEP.out _ (F1y.mono (fun k hk e => by omega))) (fun hHeldy => ?_)
          clear hK K
          refine wpAnyH_ready (rs := [22]) (by kernel_rfl) (by simp) ?_
          refine AllReadyH.cons rfl (fun K hK => ?_) AllReadyH.nil
          go_simp
          refine hK.out _ _ hHeldy (fun _ => ?_)
          clear hK K
          refine wpAnyH_ready (rs := [23]) (by kernel_rfl) (by simp) ?_
          refine AllReadyH.cons rfl (fun K hK => ?_) AllReadyH.nil
          refine stepR_storeB rfl rfl 38 (.tmp 6) (.tmp 25) rfl ab6 #[.bool false, .int .i64 0, .int .i64 0] #[.bool fo.is, .int .i64 fo.st, .int .i64 fo.code] 38 rfl rfl ((G1.out.block _ (lt_of_heap A6_3.out) (by omega)).trans A6_3.out) rfl (by kernel_rfl) (by simp [Value.oneCell']) ?_
          intro y2 H2 G2
          have F2y : Fr (fun k => W.heap.size ≤ k) W y2 := F1y.trans (G2.out.mono (fun k _ e => by omega))
          have GG : Fr (fun k => k = ab4 ∨ k = ab6) w3 y2 := (G1.out.mono (fun _ _ e => .inl e)).trans (G2.out.mono (fun _ _ e => .inr e))
          have TT : Hid (TkF W g gb most (.slice a n c) at_ X gf fo p cp q cq ab4 ab6 y2) := ⟨(HKEEP.out _ (F2y.mono (fun k hk e => by omega))).1, (HKEEP.out _ (F2y.mono (fun k hk e => by omega))).2, (G2.out.block _ (lt_of_heap H1.out) (by omega)).trans H1.out, H2.out, HPS.out.1.fr GG (fun ad e hl e2 => by have := HPB ad e hl; omega), HPS.out.2.fr GG (fun ad e hl e2 => by have := HQB ad e hl; omega), fun ad e hl => (HPB ad e hl).2.2, fun ad e hl => (HQB ad e hl).2.2, HB.2.1, HB.2.2, F2y.mono (fun k hk e => by omega)⟩
          refine hK.out _ _ ⟨TT.out.rd, TT.out.bx⟩ (fun _ => ?_)
          clear hK K
          refine wpAnyH_ready (rs := [24]) (by kernel_rfl) (by simp) ?_
          refine AllReadyH.cons rfl (fun K hK => ?_) AllReadyH.nil
          go_simp
          refine hK.out _ _ ⟨TT.out.rd, TT.out.bx⟩ (fun _ => ?_)
          clear hK K
          refine wpAnyH_done (by kernel_rfl) ?_ _
          go_wp2_with (fail)
          go_meet
          case rel => exact ⟨ab4, ab6, p, cp, q, cq, rfl, rfl, rfl, rfl, TT.out⟩
      · go_simp
        refine hK.out _ _ (HKEEP.out _ (F1.out.alloc _)) (fun hHeld4 => ?_)
        clear hK K
        obtain ⟨w4, hw4⟩ : ∃ w4, w4 = w1.alloc (.cells #[.bool false, .int .i64 0, .int .i64 0] 38) := ⟨_, rfl⟩
        obtain ⟨ab6, hab6⟩ : ∃ ab6, ab6 = w1.heap.size := ⟨_, rfl⟩
        have A6_4 : Hid (w4.heap[ab6]? = some (.cells #[.bool false, .int .i64 0, .int .i64 0] 38 (0, 0))) := by rw [hw4, hab6]; exact heap_alloc_new _ _
        have F4 : Hid (Fr (fun _ => False) W w4) := by rw [hw4]; exact F1.out.alloc _
        have fa4 : Fr (fun _ => False) w1 w4 := by rw [hw4]; exact (Fr.refl _ _).alloc _
        have Z4 : Hid (ab6 = w1.heap.size ∧ ab6 < w4.heap.size ∧ w1.heap.size ≤ w4.heap.size) := ⟨hab6, lt_of_heap A6_4.out, fa4.size⟩
        have P4 : Hid (SrcAt w4 p gf.X ∧ SetsAt w4 q cq gf.Y ∧ True) := ⟨P1.out.1.oldF fa4, P1.out.2.1.later fa4, trivial⟩
        rw [← hab6, ← hw4]
        rw [← hw4] at hHeld4
        clear hw4 hab6 fa4
        refine wpAnyH_ready (rs := [19]) (by kernel_rfl) (by simp) ?_
        refine AllReadyH.cons rfl (fun K hK => ?_) AllReadyH.nil
        · go_simp
          refine hK.out _ _ (HKEEP.out _ (F4.out.alloc _)) (fun hHeld5 => ?_)
          clear hK K
          obtain ⟨w5, hw5⟩ : ∃ w5, w5 = w4.alloc (.cells #[.int .i64 0, .int .i64 0, .int .i64 0, .slice none 0 0, .int .i64 0, .int .u32 0, .int .i64 0, .int .i64 0, .int .i64 0, .bool false, .int .i64 0, .slice none 0 0] 36) := ⟨_, rfl⟩
          obtain ⟨ab4, hab4⟩ : ∃ ab4, ab4 = w4.heap.size := ⟨_, rfl⟩
          have A4_5 : Hid (w5.heap[ab4]? = some (.cells #[.int .i64 0, .int .i64 0, .int .i64 0, .slice none 0 0, .int .i64 0, .int .u32 0, .int .i64 0, .int .i64 0, .int .i64 0, .bool false, .int .i64 0, .slice none 0 0] 36 (0, 0))) := by rw [hw5, hab4]; exact heap_alloc_new _ _
          have F5 : Hid (Fr (fun _ => False) W w5) := by rw [hw5]; exact F4.out.alloc _
          have fa5 : Fr (fun _ => False) w4 w5 := by rw [hw5]; exact (Fr.refl _ _).alloc _
          have Z5 : Hid (ab4 = w4.heap.size ∧ ab4 < w5.heap.size ∧ w4.heap.size ≤ w5.heap.size) := ⟨hab4, lt_of_heap A4_5.out, fa5.size⟩
          have A6_5 : Hid (w5.heap[ab6]? = some (.cells #[.bool false, .int .i64 0, .int .i64 0] 38 (0, 0))) := (fa5.block _ (lt_of_heap A6_4.out) id).trans A6_4.out
          have P5 : Hid (SrcAt w5 p gf.X ∧ SetsAt w5 q cq gf.Y ∧ True) := ⟨P4.out.1.oldF fa5, P4.out.2.1.later fa5, trivial⟩
          rw [← hab4, ← hw5]
          rw [← hw5] at hHeld5
          clear hw5 hab4 fa5
          have HB : ab4 ≠ ab6 ∧ W.heap.size ≤ ab4 ∧ W.heap.size ≤ ab6 := by have h0 := F0.out.size; have := Z1.out; have := Z4.out; have := Z5.out; omega
          have HPB : ∀ ad, p = some ad → 0 < gf.X.length → ad.block ≠ ab4 ∧ ad.block ≠ ab6 ∧ W.heap.size ≤ ad.block := fun ad e hl => by have h0 := F0.out.size; have h1 := P1.out.2.2.1 ad e hl; have := Z1.out; have := Z4.out; have := Z5.out; omega
          have HQB : ∀ ad, q = some ad → 0 < gf.Y.length → ad.block ≠ ab4 ∧ ad.block ≠ ab6 ∧ W.heap.size ≤ ad.block := fun ad e hl => by have h0 := F0.out.size; have h1 := P1.out.2.2.2 ad e hl; have := Z1.out; have := Z4.out; have := Z5.out; omega
          have HPS : Hid (SrcAt w5 p gf.X ∧ SetsAt w5 q cq gf.Y) := ⟨P5.out.1, P5.out.2.1⟩
          refine wpAnyH_ready (rs := [21]) (by kernel_rfl) (by simp) ?_
          refine AllReadyH.cons rfl (fun K hK => ?_) AllReadyH.nil
          refine stepR_storeB rfl rfl 36 (.tmp 4) (.tmp 23) rfl ab4 #[.int .i64 0, .int .i64 0, .int .i64 0, .slice none 0 0, .int .i64 0, .int .u32 0, .int .i64 0, .int .i64 0, .int .i64 0, .bool false, .int .i64 0, .slice none 0 0] #[.int .i64 gf.k, .int .i64 gf.fl, .int .i64 gf.st, .slice p gf.X.length cp, .int .i64 gf.pad, .int .u32 gf.code, .int .i64 gf.last, .int .i64 gf.inc, .int .i64 gf.dep, .bool gf.only, .int .i64 gf.wt, .slice q gf.Y.length cq] 36 rfl rfl A4_5.out rfl (by kernel_rfl) (by simp [Value.oneCell']) ?_
          intro y1 H1 G1
          have F1y : Fr (fun k => W.heap.size ≤ k) W y1 := (F5.out.mono (T := fun k => W.heap.size ≤ k) (fun _ _ e => e.elim)).trans (G1.out.mono (fun k _ e => by omega))
          refine hK.out _ _ (HKEEP.out _ (F1y.mono (fun k hk e => by omega))) (fun hHeldy => ?_)
          clear hK K
          refine wpAnyH_ready (rs := [22]) (by kernel_rfl) (by simp) ?_
          refine AllReadyH.cons rfl (fun K hK => ?_) AllReadyH.nil
          go_simp
          refine hK.out _ _ hHeldy (fun _ => ?_)
          clear hK K
          refine wpAnyH_ready (rs := [23]) (by kernel_rfl) (by simp) ?_
          refine AllReadyH.cons rfl (fun K hK => ?_) AllReadyH.nil
          refine stepR_storeB rfl rfl 38 (.tmp 6) (.tmp 25) rfl ab6 #[.bool false, .int .i64 0, .int .i64 0] #[.bool fo.is, .int .i64 fo.st, .int .i64 fo.code] 38 rfl rfl ((G1.out.block _ (lt_of_heap A6_5.out) (by omega)).trans A6_5.out) rfl (by kernel_rfl) (by simp [Value.oneCell']) ?_
          intro y2 H2 G2
          have F2y : Fr (fun k => W.heap.size ≤ k) W y2 := F1y.trans (G2.out.mono (fun k _ e => by omega))
          have GG : Fr (fun k => k = ab4 ∨ k = ab6) w5 y2 := (G1.out.mono (fun _ _ e => .inl e)).trans (G2.out.mono (fun _ _ e => .inr e))
          have TT : Hid (TkF W g gb most (.slice a n c) at_ X gf fo p cp q cq ab4 ab6 y2) := ⟨(HKEEP.out _ (F2y.mono (fun k hk e => by omega))).1, (HKEEP.out _ (F2y.mono (fun k hk e => by omega))).2, (G2.out.block _ (lt_of_heap H1.out) (by omega)).trans H1.out, H2.out, HPS.out.1.fr GG (fun ad e hl e2 => by have := HPB ad e hl; omega), HPS.out.2.fr GG (fun ad e hl e2 => by have := HQB ad e hl; omega), fun ad e hl => (HPB ad e hl).2.2, fun ad e hl => (HQB ad e hl).2.2, HB.2.1, HB.2.2, F2y.mono (fun k hk e => by omega)⟩
          refine hK.out _ _ ⟨TT.out.rd, TT.out.bx⟩ (fun _ => ?_)
          clear hK K
          refine wpAnyH_ready (rs := [24]) (by kernel_rfl) (by simp) ?_
          refine AllReadyH.cons rfl (fun K hK => ?_) AllReadyH.nil
          go_simp
          refine hK.out _ _ ⟨TT.out.rd, TT.out.bx⟩ (fun _ => ?_)
          clear hK K
          refine wpAnyH_done (by kernel_rfl) ?_ _
          go_wp2_with (fail)
          go_meet
          case rel => exact ⟨ab4, ab6, p, cp, q, cq, rfl, rfl, rfl, rfl, TT.out⟩
    · go_simp
      refine hK.out _ _ (HKEEP.out _ (F0.out.alloc _)) (fun hHeld6 => ?_)
      clear hK K
      obtain ⟨w6, hw6⟩ : ∃ w6, w6 = w0.alloc (.cells #[.int .i64 0, .int .i64 0, .int .i64 0, .slice none 0 0, .int .i64 0, .int .u32 0, .int .i64 0, .int .i64 0, .int .i64 0, .bool false, .int .i64 0, .slice none 0 0] 36) := ⟨_, rfl⟩
      obtain ⟨ab4, hab4⟩ : ∃ ab4, ab4 = w0.heap.size := ⟨_, rfl⟩
      have A4_6 : Hid (w6.heap[ab4]? = some (.cells #[.int .i64 0, .int .i64 0, .int .i64 0, .slice none 0 0, .int .i64 0, .int .u32 0, .int .i64 0, .int .i64 0, .int .i64 0, .bool false, .int .i64 0, .slice none 0 0] 36 (0, 0))) := by rw [hw6, hab4]; exact heap_alloc_new _ _
      have F6 : Hid (Fr (fun _ => False) W w6) := by rw [hw6]; exact F0.out.alloc _
      have fa6 : Fr (fun _ => False) w0 w6 := by rw [hw6]; exact (Fr.refl _ _).alloc _
      have Z6 : Hid (ab4 = w0.heap.size ∧ ab4 < w6.heap.size ∧ w0.heap.size ≤ w6.heap.size) := ⟨hab4, lt_of_heap A4_6.out, fa6.size⟩
      rw [← hab4, ← hw6]
      rw [← hw6] at hHeld6
      clear hw6 hab4 fa6
      refine wpAnyH_ready (rs := [13, 20]) (by kernel_rfl) (by simp) ?_
      refine AllReadyH.cons rfl (fun K hK => ?_) (AllReadyH.cons rfl (fun K hK => ?_) AllReadyH.nil)
      · go_simp
        refine (KP.out _ F6.out).mono ?_
        rintro e w7 ⟨p, cp, q, cq, rfl, hX7, hY7, hf7, hp7, hq7⟩
        have F7 : Hid (Fr (fun _ => False) W w7) := F6.out.trans hf7
        have P7 : Hid (SrcAt w7 p gf.X ∧ SetsAt w7 q cq gf.Y ∧ (∀ ad, p = some ad → 0 < gf.X.length → w6.heap.size ≤ ad.block ∧ ad.block < w7.heap.size) ∧ (∀ ad, q = some ad → 0 < gf.Y.length → w6.heap.size ≤ ad.block ∧ ad.block < w7.heap.size)) := ⟨hX7, hY7, fun ad e hl => ⟨hp7 ad e hl, srcB_lt hX7 ad e hl⟩, fun ad e hl => ⟨hq7 ad e hl, sets_lt hY7 ad e hl⟩⟩
        have Z7 : Hid (w6.heap.size ≤ w7.heap.size) := hf7.size
        have A4_7 : Hid (w7.heap[ab4]? = some (.cells #[.int .i64 0, .int .i64 0, .int .i64 0, .slice none 0 0, .int .i64 0, .int .u32 0, .int .i64 0, .int .i64 0, .int .i64 0, .bool false, .int .i64 0, .slice none 0 0] 36 (0, 0))) := (hf7.block _ (lt_of_heap A4_6.out) id).trans A4_6.out
        refine hK.out _ _ (HKEEP.out _ F7.out) (fun hHeld7 => ?_)
        clear hK K hX7 hY7 hf7 hp7 hq7
        refine wpAnyH_take (i := 14) (oi := _) (v := .tuple #[.agg #[.int .i64 gf.k, .int .i64 gf.fl, .int .i64 gf.st, .slice p gf.X.length cp, .int .i64 gf.pad, .int .u32 gf.code, .int .i64 gf.last, .int .i64 gf.inc, .int .i64 gf.dep, .bool gf.only, .int .i64 gf.wt, .slice q gf.Y.length cq], .int .i64 (en : Int), .agg #[.bool fo.is, .int .i64 fo.st, .int .i64 fo.code], .int .i64 er]) rfl (by kernel_rfl) (by kernel_rfl) (by kernel_rfl) (fun _ _ _ h => h) (Or.inl ⟨by kernel_rfl, fun w2 hw => by go_simp⟩) hHeld7 ?_
        refine wpAnyH_take (i := 15) (oi := _) (v := .agg #[.int .i64 gf.k, .int .i64 gf.fl, .int .i64 gf.st, .slice p gf.X.length cp, .int .i64 gf.pad, .int .u32 gf.code, .int .i64 gf.last, .int .i64 gf.inc, .int .i64 gf.dep, .bool gf.only, .int .i64 gf.wt, .slice q gf.Y.length cq]) rfl (by kernel_rfl) (by kernel_rfl) (by kernel_rfl) (fun _ _ _ h => h) (Or.inl ⟨by kernel_rfl, fun w2 hw => by go_simp⟩) hHeld7 ?_
        refine wpAnyH_take (i := 16) (oi := _) (v := .int .i64 (en : Int)) rfl (by kernel_rfl) (by kernel_rfl) (by kernel_rfl) (fun _ _ _ h => h) (Or.inl ⟨by kernel_rfl, fun w2 hw => by go_simp⟩) hHeld7 ?_
        refine wpAnyH_take (i := 17) (oi := _) (v := .agg #[.bool fo.is, .int .i64 fo.st, .int .i64 fo.code]) rfl (by kernel_rfl) (by kernel_rfl) (by kernel_rfl) (fun _ _ _ h => h) (Or.inl ⟨by kernel_rfl, fun w2 hw => by go_simp⟩) hHeld7 ?_
        refine wpAnyH_take (i := 18) (oi := _) (v := .int .i64 er) rfl (by kernel_rfl) (by kernel_rfl) (by kernel_rfl) (fun _ _ _ h => h) (Or.inl ⟨by kernel_rfl, fun w2 hw => by go_simp⟩) hHeld7 ?_
        simp only [Act.put, List.getElem_toArray, List.getElem_cons_succ, List.getElem_cons_zero, List.setIfInBounds_toArray, List.set_cons_zero, List.set_cons_succ]
        refine wpAnyH_ready (rs := [20]) (by kernel_rfl) (by simp) ?_
        refine AllReadyH.cons rfl (fun K hK => ?_) AllReadyH.nil
        · go_simp
          refine hK.out _ _ (HKEEP.out _ (F7.out.alloc _)) (fun hHeld8 => ?_)
          clear hK K
          obtain ⟨w8, hw8⟩ : ∃ w8, w8 = w7.alloc (.cells #[.bool false, .int .i64 0, .int .i64 0] 38) := ⟨_, rfl⟩
          obtain ⟨ab6, hab6⟩ : ∃ ab6, ab6 = w7.heap.size := ⟨_, rfl⟩
          have A6_8 : Hid (w8.heap[ab6]? = some (.cells #[.bool false, .int .i64 0, .int .i64 0] 38 (0, 0))) := by rw [hw8, hab6]; exact heap_alloc_new _ _
          have F8 : Hid (Fr (fun _ => False) W w8) := by rw [hw8]; exact F7.out.alloc _
          have fa8 : Fr (fun _ => False) w7 w8 := by rw [hw8]; exact (Fr.refl _ _).alloc _
          have Z8 : Hid (ab6 = w7.heap.size ∧ ab6 < w8.heap.size ∧ w7.heap.size ≤ w8.heap.size) := ⟨hab6, lt_of_heap A6_8.out, fa8.size⟩
          have A4_8 : Hid (w8.heap[ab4]? = some (.cells #[.int .i64 0, .int .i64 0, .int .i64 0, .slice none 0 0, .int .i64 0, .int .u32 0, .int .i64 0, .int .i64 0, .int .i64 0, .bool false, .int .i64 0, .slice none 0 0] 36 (0, 0))) := (fa8.block _ (lt_of_heap A4_7.out) id).trans A4_7.out
          have P8 : Hid (SrcAt w8 p gf.X ∧ SetsAt w8 q cq gf.Y ∧ True) := ⟨P7.out.1.oldF fa8, P7.out.2.1.later fa8, trivial⟩
          rw [← hab6, ← hw8]
          rw [← hw8] at hHeld8
          clear hw8 hab6 fa8
          have HB : ab4 ≠ ab6 ∧ W.heap.size ≤ ab4 ∧ W.heap.size ≤ ab6 := by have h0 := F0.out.size; have := Z6.out; have := Z7.out; have := Z8.out; omega
          have HPB : ∀ ad, p = some ad → 0 < gf.X.length → ad.block ≠ ab4 ∧ ad.block ≠ ab6 ∧ W.heap.size ≤ ad.block := fun ad e hl => by have h0 := F0.out.size; have h1 := P7.out.2.2.1 ad e hl; have := Z6.out; have := Z7.out; have := Z8.out; omega
          have HQB : ∀ ad, q = some ad → 0 < gf.Y.length → ad.block ≠ ab4 ∧ ad.block ≠ ab6 ∧ W.heap.size ≤ ad.block := fun ad e hl => by have h0 := F0.out.size; have h1 := P7.out.2.2.2 ad e hl; have := Z6.out; have := Z7.out; have := Z8.out; omega
          have HPS : Hid (SrcAt w8 p gf.X ∧ SetsAt w8 q cq gf.Y) := ⟨P8.out.1, P8.out.2.1⟩
          refine wpAnyH_ready (rs := [21]) (by kernel_rfl) (by simp) ?_
          refine AllReadyH.cons rfl (fun K hK => ?_) AllReadyH.nil
          refine stepR_storeB rfl rfl 36 (.tmp 4) (.tmp 23) rfl ab4 #[.int .i64 0, .int .i64 0, .int .i64 0, .slice none 0 0, .int .i64 0, .int .u32 0, .int .i64 0, .int .i64 0, .int .i64 0, .bool false, .int .i64 0, .slice none 0 0] #[.int .i64 gf.k, .int .i64 gf.fl, .int .i64 gf.st, .slice p gf.X.length cp, .int .i64 gf.pad, .int .u32 gf.code, .int .i64 gf.last, .int .i64 gf.inc, .int .i64 gf.dep, .bool gf.only, .int .i64 gf.wt, .slice q gf.Y.length cq] 36 rfl rfl A4_8.out rfl (by kernel_rfl) (by simp [Value.oneCell']) ?_
          intro y1 H1 G1
          have F1y : Fr (fun k => W.heap.size ≤ k) W y1 := (F8.out.mono (T := fun k => W.heap.size ≤ k) (fun _ _ e => e.elim)).trans (G1.out.mono (fun k _ e => by omega))
          refine hK.out _ _ (HKEEP.out _ (F1y.mono (fun k hk e => by omega))) (fun hHeldy => ?_)
          clear hK K
          refine wpAnyH_ready (rs := [22]) (by kernel_rfl) (by simp) ?_
          refine AllReadyH.cons rfl (fun K hK => ?_) AllReadyH.nil
          go_simp
          refine hK.out _ _ hHeldy (fun _ => ?_)
          clear hK K
          refine wpAnyH_ready (rs := [23]) (by kernel_rfl) (by simp) ?_
          refine AllReadyH.cons rfl (fun K hK => ?_) AllReadyH.nil
          refine stepR_storeB rfl rfl 38 (.tmp 6) (.tmp 25) rfl ab6 #[.bool false, .int .i64 0, .int .i64 0] #[.bool fo.is, .int .i64 fo.st, .int .i64 fo.code] 38 rfl rfl ((G1.out.block _ (lt_of_heap A6_8.out) (by omega)).trans A6_8.out) rfl (by kernel_rfl) (by simp [Value.oneCell']) ?_
          intro y2 H2 G2
          have F2y : Fr (fun k => W.heap.size ≤ k) W y2 := F1y.trans (G2.out.mono (fun k _ e => by omega))
          have GG : Fr (fun k => k = ab4 ∨ k = ab6) w8 y2 := (G1.out.mono (fun _ _ e => .inl e)).trans (G2.out.mono (fun _ _ e => .inr e))
          have TT : Hid (TkF W g gb most (.slice a n c) at_ X gf fo p cp q cq ab4 ab6 y2) := ⟨(HKEEP.out _ (F2y.mono (fun k hk e => by omega))).1, (HKEEP.out _ (F2y.mono (fun k hk e => by omega))).2, (G2.out.block _ (lt_of_heap H1.out) (by omega)).trans H1.out, H2.out, HPS.out.1.fr GG (fun ad e hl e2 => by have := HPB ad e hl; omega), HPS.out.2.fr GG (fun ad e hl e2 => by have := HQB ad e hl; omega), fun ad e hl => (HPB ad e hl).2.2, fun ad e hl => (HQB ad e hl).2.2, HB.2.1, HB.2.2, F2y.mono (fun k hk e => by omega)⟩
          refine hK.out _ _ ⟨TT.out.rd, TT.out.bx⟩ (fun _ => ?_)
          clear hK K
          refine wpAnyH_ready (rs := [24]) (by kernel_rfl) (by simp) ?_
          refine AllReadyH.cons rfl (fun K hK => ?_) AllReadyH.nil
          go_simp
          refine hK.out _ _ ⟨TT.out.rd, TT.out.bx⟩ (fun _ => ?_)
          clear hK K
          refine wpAnyH_done (by kernel_rfl) ?_ _
          go_wp2_with (fail)
          go_meet
          case rel => exact ⟨ab4, ab6, p, cp, q, cq, rfl, rfl, rfl, rfl, TT.out⟩
      · go_simp
        refine hK.out _ _ (HKEEP.out _ (F6.out.alloc _)) (fun hHeld9 => ?_)
        clear hK K
        obtain ⟨w9, hw9⟩ : ∃ w9, w9 = w6.alloc (.cells #[.bool false, .int .i64 0, .int .i64 0] 38) := ⟨_, rfl⟩
        obtain ⟨ab6, hab6⟩ : ∃ ab6, ab6 = w6.heap.size := ⟨_, rfl⟩
        have A6_9 : Hid (w9.heap[ab6]? = some (.cells #[.bool false, .int .i64 0, .int .i64 0] 38 (0, 0))) := by rw [hw9, hab6]; exact heap_alloc_new _ _
        have F9 : Hid (Fr (fun _ => False) W w9) := by rw [hw9]; exact F6.out.alloc _
        have fa9 : Fr (fun _ => False) w6 w9 := by rw [hw9]; exact (Fr.refl _ _).alloc _
        have Z9 : Hid (ab6 = w6.heap.size ∧ ab6 < w9.heap.size ∧ w6.heap.size ≤ w9.heap.size) := ⟨hab6, lt_of_heap A6_9.out, fa9.size⟩
        have A4_9 : Hid (w9.heap[ab4]? = some (.cells #[.int .i64 0, .int .i64 0, .int .i64 0, .slice none 0 0, .int .i64 0, .int .u32 0, .int .i64 0, .int .i64 0, .int .i64 0, .bool false, .int .i64 0, .slice none 0 0] 36 (0, 0))) := (fa9.block _ (lt_of_heap A4_6.out) id).trans A4_6.out
        rw [← hab6, ← hw9]
        rw [← hw9] at hHeld9
        clear hw9 hab6 fa9
        refine wpAnyH_ready (rs := [13]) (by kernel_rfl) (by simp) ?_
        refine AllReadyH.cons rfl (fun K hK => ?_) AllReadyH.nil
        · go_simp
          refine (KP.out _ F9.out).mono ?_
          rintro e w10 ⟨p, cp, q, cq, rfl, hX10, hY10, hf10, hp10, hq10⟩
          have F10 : Hid (Fr (fun _ => False) W w10) := F9.out.trans hf10
          have P10 : Hid (SrcAt w10 p gf.X ∧ SetsAt w10 q cq gf.Y ∧ (∀ ad, p = some ad → 0 < gf.X.length → w9.heap.size ≤ ad.block ∧ ad.block < w10.heap.size) ∧ (∀ ad, q = some ad → 0 < gf.Y.length → w9.heap.size ≤ ad.block ∧ ad.block < w10.heap.size)) := ⟨hX10, hY10, fun ad e hl => ⟨hp10 ad e hl, srcB_lt hX10 ad e hl⟩, fun ad e hl => ⟨hq10 ad e hl, sets_lt hY10 ad e hl⟩⟩
          have Z10 : Hid (w9.heap.size ≤ w10.heap.size) := hf10.size
          have A4_10 : Hid (w10.heap[ab4]? = some (.cells #[.int .i64 0, .int .i64 0, .int .i64 0, .slice none 0 0, .int .i64 0, .int .u32 0, .int .i64 0, .int .i64 0, .int .i64 0, .bool false, .int .i64 0, .slice none 0 0] 36 (0, 0))) := (hf10.block _ (lt_of_heap A4_9.out) id).trans A4_9.out
          have A6_10 : Hid (w10.heap[ab6]? = some (.cells #[.bool false, .int .i64 0, .int .i64 0] 38 (0, 0))) := (hf10.block _ (lt_of_heap A6_9.out) id).trans A6_9.out
          refine hK.out _ _ (HKEEP.out _ F10.out) (fun hHeld10 => ?_)
          clear hK K hX10 hY10 hf10 hp10 hq10
          refine wpAnyH_take (i := 14) (oi := _) (v := .tuple #[.agg #[.int .i64 gf.k, .int .i64 gf.fl, .int .i64 gf.st, .slice p gf.X.length cp, .int .i64 gf.pad, .int .u32 gf.code, .int .i64 gf.last, .int .i64 gf.inc, .int .i64 gf.dep, .bool gf.only, .int .i64 gf.wt, .slice q gf.Y.length cq], .int .i64 (en : Int), .agg #[.bool fo.is, .int .i64 fo.st, .int .i64 fo.code], .int .i64 er]) rfl (by kernel_rfl) (by kernel_rfl) (by kernel_rfl) (fun _ _ _ h => h) (Or.inl ⟨by kernel_rfl, fun w2 hw => by go_simp⟩) hHeld10 ?_
          refine wpAnyH_take (i := 15) (oi := _) (v := .agg #[.int .i64 gf.k, .int .i64 gf.fl, .int .i64 gf.st, .slice p gf.X.length cp, .int .i64 gf.pad, .int .u32 gf.code, .int .i64 gf.last, .int .i64 gf.inc, .int .i64 gf.dep, .bool gf.only, .int .i64 gf.wt, .slice q gf.Y.length cq]) rfl (by kernel_rfl) (by kernel_rfl) (by kernel_rfl) (fun _ _ _ h => h) (Or.inl ⟨by kernel_rfl, fun w2 hw => by go_simp⟩) hHeld10 ?_
          refine wpAnyH_take (i := 16) (oi := _) (v := .int .i64 (en : Int)) rfl (by kernel_rfl) (by kernel_rfl) (by kernel_rfl) (fun _ _ _ h => h) (Or.inl ⟨by kernel_rfl, fun w2 hw => by go_simp⟩) hHeld10 ?_
          refine wpAnyH_take (i := 17) (oi := _) (v := .agg #[.bool fo.is, .int .i64 fo.st, .int .i64 fo.code]) rfl (by kernel_rfl) (by kernel_rfl) (by kernel_rfl) (fun _ _ _ h => h) (Or.inl ⟨by kernel_rfl, fun w2 hw => by go_simp⟩) hHeld10 ?_
          refine wpAnyH_take (i := 18) (oi := _) (v := .int .i64 er) rfl (by kernel_rfl) (by kernel_rfl) (by kernel_rfl) (fun _ _ _ h => h) (Or.inl ⟨by kernel_rfl, fun w2 hw => by go_simp⟩) hHeld10 ?_
          simp only [Act.put, List.getElem_toArray, List.getElem_cons_succ, List.getElem_cons_zero, List.setIfInBounds_toArray, List.set_cons_zero, List.set_cons_succ]
          have HB : ab4 ≠ ab6 ∧ W.heap.size ≤ ab4 ∧ W.heap.size ≤ ab6 := by have h0 := F0.out.size; have := Z6.out; have := Z9.out; have := Z10.out; omega
          have HPB : ∀ ad, p = some ad → 0 < gf.X.length → ad.block ≠ ab4 ∧ ad.block ≠ ab6 ∧ W.heap.size ≤ ad.block := fun ad e hl => by have h0 := F0.out.size; have h1 := P10.out.2.2.1 ad e hl; have := Z6.out; have := Z9.out; have := Z10.out; omega
          have HQB : ∀ ad, q = some ad → 0 < gf.Y.length → ad.block ≠ ab4 ∧ ad.block ≠ ab6 ∧ W.heap.size ≤ ad.block := fun ad e hl => by have h0 := F0.out.size; have h1 := P10.out.2.2.2 ad e hl; have := Z6.out; have := Z9.out; have := Z10.out; omega
          have HPS : Hid (SrcAt w10 p gf.X ∧ SetsAt w10 q cq gf.Y) := ⟨P10.out.1, P10.out.2.1⟩
          refine wpAnyH_ready (rs := [21]) (by kernel_rfl) (by simp) ?_
          refine AllReadyH.cons rfl (fun K hK => ?_) AllReadyH.nil
          refine stepR_storeB rfl rfl 36 (.tmp 4) (.tmp 23) rfl ab4 #[.int .i64 0, .int .i64 0, .int .i64 0, .slice none 0 0, .int .i64 0, .int .u32 0, .int .i64 0, .int .i64 0, .int .i64 0, .bool false, .int .i64 0, .slice none 0 0] #[.int .i64 gf.k, .int .i64 gf.fl, .int .i64 gf.st, .slice p gf.X.length cp, .int .i64 gf.pad, .int .u32 gf.code, .int .i64 gf.last, .int .i64 gf.inc, .int .i64 gf.dep, .bool gf.only, .int .i64 gf.wt, .slice q gf.Y.length cq] 36 rfl rfl A4_10.out rfl (by kernel_rfl) (by simp [Value.oneCell']) ?_
          intro y1 H1 G1
          have F1y : Fr (fun k => W.heap.size ≤ k) W y1 := (F10.out.mono (T := fun k => W.heap.size ≤ k) (fun _ _ e => e.elim)).trans (G1.out.mono (fun k _ e => by omega))
          refine hK.out _ _ (HKEEP.out _ (F1y.mono (fun k hk e => by omega))) (fun hHeldy => ?_)
          clear hK K
          refine wpAnyH_ready (rs := [22]) (by kernel_rfl) (by simp) ?_
          refine AllReadyH.cons rfl (fun K hK => ?_) AllReadyH.nil
          go_simp
          refine hK.out _ _ hHeldy (fun _ => ?_)
          clear hK K
          refine wpAnyH_ready (rs := [23]) (by kernel_rfl) (by simp) ?_
          refine AllReadyH.cons rfl (fun K hK => ?_) AllReadyH.nil
          refine stepR_storeB rfl rfl 38 (.tmp 6) (.tmp 25) rfl ab6 #[.bool false, .int .i64 0, .int .i64 0] #[.bool fo.is, .int .i64 fo.st, .int .i64 fo.code] 38 rfl rfl ((G1.out.block _ (lt_of_heap A6_10.out) (by omega)).trans A6_10.out) rfl (by kernel_rfl) (by simp [Value.oneCell']) ?_
          intro y2 H2 G2
          have F2y : Fr (fun k => W.heap.size ≤ k) W y2 := F1y.trans (G2.out.mono (fun k _ e => by omega))
          have GG : Fr (fun k => k = ab4 ∨ k = ab6) w10 y2 := (G1.out.mono (fun _ _ e => .inl e)).trans (G2.out.mono (fun _ _ e => .inr e))
          have TT : Hid (TkF W g gb most (.slice a n c) at_ X gf fo p cp q cq ab4 ab6 y2) := ⟨(HKEEP.out _ (F2y.mono (fun k hk e => by omega))).1, (HKEEP.out _ (F2y.mono (fun k hk e => by omega))).2, (G2.out.block _ (lt_of_heap H1.out) (by omega)).trans H1.out, H2.out, HPS.out.1.fr GG (fun ad e hl e2 => by have := HPB ad e hl; omega), HPS.out.2.fr GG (fun ad e hl e2 => by have := HQB ad e hl; omega), fun ad e hl => (HPB ad e hl).2.2, fun ad e hl => (HQB ad e hl).2.2, HB.2.1, HB.2.2, F2y.mono (fun k hk e => by omega)⟩
          refine hK.out _ _ ⟨TT.out.rd, TT.out.bx⟩ (fun _ => ?_)
          clear hK K
          refine wpAnyH_ready (rs := [24]) (by kernel_rfl) (by simp) ?_
          refine AllReadyH.cons rfl (fun K hK => ?_) AllReadyH.nil
          go_simp
          refine hK.out _ _ ⟨TT.out.rd, TT.out.bx⟩ (fun _ => ?_)
          clear hK K
          refine wpAnyH_done (by kernel_rfl) ?_ _
          go_wp2_with (fail)
          go_meet
          case rel => exact ⟨ab4, ab6, p, cp, q, cq, rfl, rfl, rfl, rfl, TT.out⟩
    · go_simp
      refine hK.out _ _ (HKEEP.out _ (F0.out.alloc _)) (fun hHeld11 => ?_)
      clear hK K
      obtain ⟨w11, hw11⟩ : ∃ w11, w11 = w0.alloc (.cells #[.bool false, .int .i64 0, .int .i64 0] 38) := ⟨_, rfl⟩
      obtain ⟨ab6, hab6⟩ : ∃ ab6, ab6 = w0.heap.size := ⟨_, rfl⟩
      have A6_11 : Hid (w11.heap[ab6]? = some (.cells #[.bool false, .int .i64 0, .int .i64 0] 38 (0, 0))) := by rw [hw11, hab6]; exact heap_alloc_new _ _
      have F11 : Hid (Fr (fun _ => False) W w11) := by rw [hw11]; exact F0.out.alloc _
      have fa11 : Fr (fun _ => False) w0 w11 := by rw [hw11]; exact (Fr.refl _ _).alloc _
      have Z11 : Hid (ab6 = w0.heap.size ∧ ab6 < w11.heap.size ∧ w0.heap.size ≤ w11.heap.size) := ⟨hab6, lt_of_heap A6_11.out, fa11.size⟩
      rw [← hab6, ← hw11]
      rw [← hw11] at hHeld11
      clear hw11 hab6 fa11
      refine wpAnyH_ready (rs := [13, 19]) (by kernel_rfl) (by simp) ?_
      refine AllReadyH.cons rfl (fun K hK => ?_) (AllReadyH.cons rfl (fun K hK => ?_) AllReadyH.nil)
      · go_simp
        refine (KP.out _ F11.out).mono ?_
        rintro e w12 ⟨p, cp, q, cq, rfl, hX12, hY12, hf12, hp12, hq12⟩
        have F12 : Hid (Fr (fun _ => False) W w12) := F11.out.trans hf12
        have P12 : Hid (SrcAt w12 p gf.X ∧ SetsAt w12 q cq gf.Y ∧ (∀ ad, p = some ad → 0 < gf.X.length → w11.heap.size ≤ ad.block ∧ ad.block < w12.heap.size) ∧ (∀ ad, q = some ad → 0 < gf.Y.length → w11.heap.size ≤ ad.block ∧ ad.block < w12.heap.size)) := ⟨hX12, hY12, fun ad e hl => ⟨hp12 ad e hl, srcB_lt hX12 ad e hl⟩, fun ad e hl => ⟨hq12 ad e hl, sets_lt hY12 ad e hl⟩⟩
        have Z12 : Hid (w11.heap.size ≤ w12.heap.size) := hf12.size
        have A6_12 : Hid (w12.heap[ab6]? = some (.cells #[.bool false, .int .i64 0, .int .i64 0] 38 (0, 0))) := (hf12.block _ (lt_of_heap A6_11.out) id).trans A6_11.out
        refine hK.out _ _ (HKEEP.out _ F12.out) (fun hHeld12 => ?_)
        clear hK K hX12 hY12 hf12 hp12 hq12
        refine wpAnyH_take (i := 14) (oi := _) (v := .tuple #[.agg #[.int .i64 gf.k, .int .i64 gf.fl, .int .i64 gf.st, .slice p gf.X.length cp, .int .i64 gf.pad, .int .u32 gf.code, .int .i64 gf.last, .int .i64 gf.inc, .int .i64 gf.dep, .bool gf.only, .int .i64 gf.wt, .slice q gf.Y.length cq], .int .i64 (en : Int), .agg #[.bool fo.is, .int .i64 fo.st, .int .i64 fo.code], .int .i64 er]) rfl (by kernel_rfl) (by kernel_rfl) (by kernel_rfl) (fun _ _ _ h => h) (Or.inl ⟨by kernel_rfl, fun w2 hw => by go_simp⟩) hHeld12 ?_
        refine wpAnyH_take (i := 15) (oi := _) (v := .agg #[.int .i64 gf.k, .int .i64 gf.fl, .int .i64 gf.st, .slice p gf.X.length cp, .int .i64 gf.pad, .int .u32 gf.code, .int .i64 gf.last, .int .i64 gf.inc, .int .i64 gf.dep, .bool gf.only, .int .i64 gf.wt, .slice q gf.Y.length cq]) rfl (by kernel_rfl) (by kernel_rfl) (by kernel_rfl) (fun _ _ _ h => h) (Or.inl ⟨by kernel_rfl, fun w2 hw => by go_simp⟩) hHeld12 ?_
        refine wpAnyH_take (i := 16) (oi := _) (v := .int .i64 (en : Int)) rfl (by kernel_rfl) (by kernel_rfl) (by kernel_rfl) (fun _ _ _ h => h) (Or.inl ⟨by kernel_rfl, fun w2 hw => by go_simp⟩) hHeld12 ?_
        refine wpAnyH_take (i := 17) (oi := _) (v := .agg #[.bool fo.is, .int .i64 fo.st, .int .i64 fo.code]) rfl (by kernel_rfl) (by kernel_rfl) (by kernel_rfl) (fun _ _ _ h => h) (Or.inl ⟨by kernel_rfl, fun w2 hw => by go_simp⟩) hHeld12 ?_
        refine wpAnyH_take (i := 18) (oi := _) (v := .int .i64 er) rfl (by kernel_rfl) (by kernel_rfl) (by kernel_rfl) (fun _ _ _ h => h) (Or.inl ⟨by kernel_rfl, fun w2 hw => by go_simp⟩) hHeld12 ?_
        simp only [Act.put, List.getElem_toArray, List.getElem_cons_succ, List.getElem_cons_zero, List.setIfInBounds_toArray, List.set_cons_zero, List.set_cons_succ]
        refine wpAnyH_ready (rs := [19]) (by kernel_rfl) (by simp) ?_
        refine AllReadyH.cons rfl (fun K hK => ?_) AllReadyH.nil
        · go_simp
          refine hK.out _ _ (HKEEP.out _ (F12.out.alloc _)) (fun hHeld13 => ?_)
          clear hK K
          obtain ⟨w13, hw13⟩ : ∃ w13, w13 = w12.alloc (.cells #[.int .i64 0, .int .i64 0, .int .i64 0, .slice none 0 0, .int .i64 0, .int .u32 0, .int .i64 0, .int .i64 0, .int .i64 0, .bool false, .int .i64 0, .slice none 0 0] 36) := ⟨_, rfl⟩
          obtain ⟨ab4, hab4⟩ : ∃ ab4, ab4 = w12.heap.size := ⟨_, rfl⟩
          have A4_13 : Hid (w13.heap[ab4]? = some (.cells #[.int .i64 0, .int .i64 0, .int .i64 0, .slice none 0 0, .int .i64 0, .int .u32 0, .int .i64 0, .int .i64 0, .int .i64 0, .bool false, .int .i64 0, .slice none 0 0] 36 (0, 0))) := by rw [hw13, hab4]; exact heap_alloc_new _ _
          have F13 : Hid (Fr (fun _ => False) W w13) := by rw [hw13]; exact F12.out.alloc _
          have fa13 : Fr (fun _ => False) w12 w13 := by rw [hw13]; exact (Fr.refl _ _).alloc _
          have Z13 : Hid (ab4 = w12.heap.size ∧ ab4 < w13.heap.size ∧ w12.heap.size ≤ w13.heap.size) := ⟨hab4, lt_of_heap A4_13.out, fa13.size⟩
          have A6_13 : Hid (w13.heap[ab6]? = some (.cells #[.bool false, .int .i64 0, .int .i64 0] 38 (0, 0))) := (fa13.block _ (lt_of_heap A6_12.out) id).trans A6_12.out
          have P13 : Hid (SrcAt w13 p gf.X ∧ SetsAt w13 q cq gf.Y ∧ True) := ⟨P12.out.1.oldF fa13, P12.out.2.1.later fa13, trivial⟩
          rw [← hab4, ← hw13]
          rw [← hw13] at hHeld13
          clear hw13 hab4 fa13
          have HB : ab4 ≠ ab6 ∧ W.heap.size ≤ ab4 ∧ W.heap.size ≤ ab6 := by have h0 := F0.out.size; have := Z11.out; have := Z12.out; have := Z13.out; omega
          have HPB : ∀ ad, p = some ad → 0 < gf.X.length → ad.block ≠ ab4 ∧ ad.block ≠ ab6 ∧ W.heap.size ≤ ad.block := fun ad e hl => by have h0 := F0.out.size; have h1 := P12.out.2.2.1 ad e hl; have := Z11.out; have := Z12.out; have := Z13.out; omega
          have HQB : ∀ ad, q = some ad → 0 < gf.Y.length → ad.block ≠ ab4 ∧ ad.block ≠ ab6 ∧ W.heap.size ≤ ad.block := fun ad e hl => by have h0 := F0.out.size; have h1 := P12.out.2.2.2 ad e hl; have := Z11.out; have := Z12.out; have := Z13.out; omega
          have HPS : Hid (SrcAt w13 p gf.X ∧ SetsAt w13 q cq gf.Y) := ⟨P13.out.1, P13.out.2.1⟩
          refine wpAnyH_ready (rs := [21]) (by kernel_rfl) (by simp) ?_
          refine AllReadyH.cons rfl (fun K hK => ?_) AllReadyH.nil
          refine stepR_storeB rfl rfl 36 (.tmp 4) (.tmp 23) rfl ab4 #[.int .i64 0, .int .i64 0, .int .i64 0, .slice none 0 0, .int .i64 0, .int .u32 0, .int .i64 0, .int .i64 0, .int .i64 0, .bool false, .int .i64 0, .slice none 0 0] #[.int .i64 gf.k, .int .i64 gf.fl, .int .i64 gf.st, .slice p gf.X.length cp, .int .i64 gf.pad, .int .u32 gf.code, .int .i64 gf.last, .int .i64 gf.inc, .int .i64 gf.dep, .bool gf.only, .int .i64 gf.wt, .slice q gf.Y.length cq] 36 rfl rfl A4_13.out rfl (by kernel_rfl) (by simp [Value.oneCell']) ?_
          intro y1 H1 G1
          have F1y : Fr (fun k => W.heap.size ≤ k) W y1 := (F13.out.mono (T := fun k => W.heap.size ≤ k) (fun _ _ e => e.elim)).trans (G1.out.mono (fun k _ e => by omega))
          refine hK.out _ _ (HKEEP.out _ (F1y.mono (fun k hk e => by omega))) (fun hHeldy => ?_)
          clear hK K
          refine wpAnyH_ready (rs := [22]) (by kernel_rfl) (by simp) ?_
          refine AllReadyH.cons rfl (fun K hK => ?_) AllReadyH.nil
          go_simp
          refine hK.out _ _ hHeldy (fun _ => ?_)
          clear hK K
          refine wpAnyH_ready (rs := [23]) (by kernel_rfl) (by simp) ?_
          refine AllReadyH.cons rfl (fun K hK => ?_) AllReadyH.nil
          refine stepR_storeB rfl rfl 38 (.tmp 6) (.tmp 25) rfl ab6 #[.bool false, .int .i64 0, .int .i64 0] #[.bool fo.is, .int .i64 fo.st, .int .i64 fo.code] 38 rfl rfl ((G1.out.block _ (lt_of_heap A6_13.out) (by omega)).trans A6_13.out) rfl (by kernel_rfl) (by simp [Value.oneCell']) ?_
          intro y2 H2 G2
          have F2y : Fr (fun k => W.heap.size ≤ k) W y2 := F1y.trans (G2.out.mono (fun k _ e => by omega))
          have GG : Fr (fun k => k = ab4 ∨ k = ab6) w13 y2 := (G1.out.mono (fun _ _ e => .inl e)).trans (G2.out.mono (fun _ _ e => .inr e))
          have TT : Hid (TkF W g gb most (.slice a n c) at_ X gf fo p cp q cq ab4 ab6 y2) := ⟨(HKEEP.out _ (F2y.mono (fun k hk e => by omega))).1, (HKEEP.out _ (F2y.mono (fun k hk e => by omega))).2, (G2.out.block _ (lt_of_heap H1.out) (by omega)).trans H1.out, H2.out, HPS.out.1.fr GG (fun ad e hl e2 => by have := HPB ad e hl; omega), HPS.out.2.fr GG (fun ad e hl e2 => by have := HQB ad e hl; omega), fun ad e hl => (HPB ad e hl).2.2, fun ad e hl => (HQB ad e hl).2.2, HB.2.1, HB.2.2, F2y.mono (fun k hk e => by omega)⟩
          refine hK.out _ _ ⟨TT.out.rd, TT.out.bx⟩ (fun _ => ?_)
          clear hK K
          refine wpAnyH_ready (rs := [24]) (by kernel_rfl) (by simp) ?_
          refine AllReadyH.cons rfl (fun K hK => ?_) AllReadyH.nil
          go_simp
          refine hK.out _ _ ⟨TT.out.rd, TT.out.bx⟩ (fun _ => ?_)
          clear hK K
          refine wpAnyH_done (by kernel_rfl) ?_ _
          go_wp2_with (fail)
          go_meet
          case rel => exact ⟨ab4, ab6, p, cp, q, cq, rfl, rfl, rfl, rfl, TT.out⟩
      · go_simp
        refine hK.out _ _ (HKEEP.out _ (F11.out.alloc _)) (fun hHeld14 => ?_)
        clear hK K
        obtain ⟨w14, hw14⟩ : ∃ w14, w14 = w11.alloc (.cells #[.int .i64 0, .int .i64 0, .int .i64 0, .slice none 0 0, .int .i64 0, .int .u32 0, .int .i64 0, .int .i64 0, .int .i64 0, .bool false, .int .i64 0, .slice none 0 0] 36) := ⟨_, rfl⟩
        obtain ⟨ab4, hab4⟩ : ∃ ab4, ab4 = w11.heap.size := ⟨_, rfl⟩
        have A4_14 : Hid (w14.heap[ab4]? = some (.cells #[.int .i64 0, .int .i64 0, .int .i64 0, .slice none 0 0, .int .i64 0, .int .u32 0, .int .i64 0, .int .i64 0, .int .i64 0, .bool false, .int .i64 0, .slice none 0 0] 36 (0, 0))) := by rw [hw14, hab4]; exact heap_alloc_new _ _
        have F14 : Hid (Fr (fun _ => False) W w14) := by rw [hw14]; exact F11.out.alloc _
        have fa14 : Fr (fun _ => False) w11 w14 := by rw [hw14]; exact (Fr.refl _ _).alloc _
        have Z14 : Hid (ab4 = w11.heap.size ∧ ab4 < w14.heap.size ∧ w11.heap.size ≤ w14.heap.size) := ⟨hab4, lt_of_heap A4_14.out, fa14.size⟩
        have A6_14 : Hid (w14.heap[ab6]? = some (.cells #[.bool false, .int .i64 0, .int .i64 0] 38 (0, 0))) := (fa14.block _ (lt_of_heap A6_11.out) id).trans A6_11.out
        rw [← hab4, ← hw14]
        rw [← hw14] at hHeld14
        clear hw14 hab4 fa14
        refine wpAnyH_ready (rs := [13]) (by kernel_rfl) (by simp) ?_
        refine AllReadyH.cons rfl (fun K hK => ?_) AllReadyH.nil
        · go_simp
          refine (KP.out _ F14.out).mono ?_
          rintro e w15 ⟨p, cp, q, cq, rfl, hX15, hY15, hf15, hp15, hq15⟩
          have F15 : Hid (Fr (fun _ => False) W w15) := F14.out.trans hf15
          have P15 : Hid (SrcAt w15 p gf.X ∧ SetsAt w15 q cq gf.Y ∧ (∀ ad, p = some ad → 0 < gf.X.length → w14.heap.size ≤ ad.block ∧ ad.block < w15.heap.size) ∧ (∀ ad, q = some ad → 0 < gf.Y.length → w14.heap.size ≤ ad.block ∧ ad.block < w15.heap.size)) := ⟨hX15, hY15, fun ad e hl => ⟨hp15 ad e hl, srcB_lt hX15 ad e hl⟩, fun ad e hl => ⟨hq15 ad e hl, sets_lt hY15 ad e hl⟩⟩
          have Z15 : Hid (w14.heap.size ≤ w15.heap.size) := hf15.size
          have A4_15 : Hid (w15.heap[ab4]? = some (.cells #[.int .i64 0, .int .i64 0, .int .i64 0, .slice none 0 0, .int .i64 0, .int .u32 0, .int .i64 0, .int .i64 0, .int .i64 0, .bool false, .int .i64 0, .slice none 0 0] 36 (0, 0))) := (hf15.block _ (lt_of_heap A4_14.out) id).trans A4_14.out
          have A6_15 : Hid (w15.heap[ab6]? = some (.cells #[.bool false, .int .i64 0, .int .i64 0] 38 (0, 0))) := (hf15.block _ (lt_of_heap A6_14.out) id).trans A6_14.out
          refine hK.out _ _ (HKEEP.out _ F15.out) (fun hHeld15 => ?_)
          clear hK K hX15 hY15 hf15 hp15 hq15
          refine wpAnyH_take (i := 14) (oi := _) (v := .tuple #[.agg #[.int .i64 gf.k, .int .i64 gf.fl, .int .i64 gf.st, .slice p gf.X.length cp, .int .i64 gf.pad, .int .u32 gf.code, .int .i64 gf.last, .int .i64 gf.inc, .int .i64 gf.dep, .bool gf.only, .int .i64 gf.wt, .slice q gf.Y.length cq], .int .i64 (en : Int), .agg #[.bool fo.is, .int .i64 fo.st, .int .i64 fo.code], .int .i64 er]) rfl (by kernel_rfl) (by kernel_rfl) (by kernel_rfl) (fun _ _ _ h => h) (Or.inl ⟨by kernel_rfl, fun w2 hw => by go_simp⟩) hHeld15 ?_
          refine wpAnyH_take (i := 15) (oi := _) (v := .agg #[.int .i64 gf.k, .int .i64 gf.fl, .int .i64 gf.st, .slice p gf.X.length cp, .int .i64 gf.pad, .int .u32 gf.code, .int .i64 gf.last, .int .i64 gf.inc, .int .i64 gf.dep, .bool gf.only, .int .i64 gf.wt, .slice q gf.Y.length cq]) rfl (by kernel_rfl) (by kernel_rfl) (by kernel_rfl) (fun _ _ _ h => h) (Or.inl ⟨by kernel_rfl, fun w2 hw => by go_simp⟩) hHeld15 ?_
          refine wpAnyH_take (i := 16) (oi := _) (v := .int .i64 (en : Int)) rfl (by kernel_rfl) (by kernel_rfl) (by kernel_rfl) (fun _ _ _ h => h) (Or.inl ⟨by kernel_rfl, fun w2 hw => by go_simp⟩) hHeld15 ?_
          refine wpAnyH_take (i := 17) (oi := _) (v := .agg #[.bool fo.is, .int .i64 fo.st, .int .i64 fo.code]) rfl (by kernel_rfl) (by kernel_rfl) (by kernel_rfl) (fun _ _ _ h => h) (Or.inl ⟨by kernel_rfl, fun w2 hw => by go_simp⟩) hHeld15 ?_
          refine wpAnyH_take (i := 18) (oi := _) (v := .int .i64 er) rfl (by kernel_rfl) (by kernel_rfl) (by kernel_rfl) (fun _ _ _ h => h) (Or.inl ⟨by kernel_rfl, fun w2 hw => by go_simp⟩) hHeld15 ?_
          simp only [Act.put, List.getElem_toArray, List.getElem_cons_succ, List.getElem_cons_zero, List.setIfInBounds_toArray, List.set_cons_zero, List.set_cons_succ]
          have HB : ab4 ≠ ab6 ∧ W.heap.size ≤ ab4 ∧ W.heap.size ≤ ab6 := by have h0 := F0.out.size; have := Z11.out; have := Z14.out; have := Z15.out; omega
          have HPB : ∀ ad, p = some ad → 0 < gf.X.length → ad.block ≠ ab4 ∧ ad.block ≠ ab6 ∧ W.heap.size ≤ ad.block := fun ad e hl => by have h0 := F0.out.size; have h1 := P15.out.2.2.1 ad e hl; have := Z11.out; have := Z14.out; have := Z15.out; omega
          have HQB : ∀ ad, q = some ad → 0 < gf.Y.length → ad.block ≠ ab4 ∧ ad.block ≠ ab6 ∧ W.heap.size ≤ ad.block := fun ad e hl => by have h0 := F0.out.size; have h1 := P15.out.2.2.2 ad e hl; have := Z11.out; have := Z14.out; have := Z15.out; omega
          have HPS : Hid (SrcAt w15 p gf.X ∧ SetsAt w15 q cq gf.Y) := ⟨P15.out.1, P15.out.2.1⟩
          refine wpAnyH_ready (rs := [21]) (by kernel_rfl) (by simp) ?_
          refine AllReadyH.cons rfl (fun K hK => ?_) AllReadyH.nil
          refine stepR_storeB rfl rfl 36 (.tmp 4) (.tmp 23) rfl ab4 #[.int .i64 0, .int .i64 0, .int .i64 0, .slice none 0 0, .int .i64 0, .int .u32 0, .int .i64 0, .int .i64 0, .int .i64 0, .bool false, .int .i64 0, .slice none 0 0] #[.int .i64 gf.k, .int .i64 gf.fl, .int .i64 gf.st, .slice p gf.X.length cp, .int .i64 gf.pad, .int .u32 gf.code, .int .i64 gf.last, .int .i64 gf.inc, .int .i64 gf.dep, .bool gf.only, .int .i64 gf.wt, .slice q gf.Y.length cq] 36 rfl rfl A4_15.out rfl (by kernel_rfl) (by simp [Value.oneCell']) ?_
          intro y1 H1 G1
          have F1y : Fr (fun k => W.heap.size ≤ k) W y1 := (F15.out.mono (T := fun k => W.heap.size ≤ k) (fun _ _ e => e.elim)).trans (G1.out.mono (fun k _ e => by omega))
          refine hK.out _ _ (HKEEP.out _ (F1y.mono (fun k hk e => by omega))) (fun hHeldy => ?_)
          clear hK K
          refine wpAnyH_ready (rs := [22]) (by kernel_rfl) (by simp) ?_
          refine AllReadyH.cons rfl (fun K hK => ?_) AllReadyH.nil
          go_simp
          refine hK.out _ _ hHeldy (fun _ => ?_)
          clear hK K
          refine wpAnyH_ready (rs := [23]) (by kernel_rfl) (by simp) ?_
          refine AllReadyH.cons rfl (fun K hK => ?_) AllReadyH.nil
          refine stepR_storeB rfl rfl 38 (.tmp 6) (.tmp 25) rfl ab6 #[.bool false, .int .i64 0, .int .i64 0] #[.bool fo.is, .int .i64 fo.st, .int .i64 fo.code] 38 rfl rfl ((G1.out.block _ (lt_of_heap A6_15.out) (by omega)).trans A6_15.out) rfl (by kernel_rfl) (by simp [Value.oneCell']) ?_
          intro y2 H2 G2
          have F2y : Fr (fun k => W.heap.size ≤ k) W y2 := F1y.trans (G2.out.mono (fun k _ e => by omega))
          have GG : Fr (fun k => k = ab4 ∨ k = ab6) w15 y2 := (G1.out.mono (fun _ _ e => .inl e)).trans (G2.out.mono (fun _ _ e => .inr e))
          have TT : Hid (TkF W g gb most (.slice a n c) at_ X gf fo p cp q cq ab4 ab6 y2) := ⟨(HKEEP.out _ (F2y.mono (fun k hk e => by omega))).1, (HKEEP.out _ (F2y.mono (fun k hk e => by omega))).2, (G2.out.block _ (lt_of_heap H1.out) (by omega)).trans H1.out, H2.out, HPS.out.1.fr GG (fun ad e hl e2 => by have := HPB ad e hl; omega), HPS.out.2.fr GG (fun ad e hl e2 => by have := HQB ad e hl; omega), fun ad e hl => (HPB ad e hl).2.2, fun ad e hl => (HQB ad e hl).2.2, HB.2.1, HB.2.2, F2y.mono (fun k hk e => by omega)⟩
          refine hK.out _ _ ⟨TT.out.rd, TT.out.bx⟩ (fun _ => ?_)
          clear hK K
          refine wpAnyH_ready (rs := [24]) (by kernel_rfl) (by simp) ?_
          refine AllReadyH.cons rfl (fun K hK => ?_) AllReadyH.nil
          go_simp
          refine hK.out _ _ ⟨TT.out.rd, TT.out.bx⟩ (fun _ => ?_)
          clear hK K
          refine wpAnyH_done (by kernel_rfl) ?_ _
          go_wp2_with (fail)
          go_meet
          case rel => exact ⟨ab4, ab6, p, cp, q, cq, rfl, rfl, rfl, rfl, TT.out⟩
  case rest =>
    obtain ⟨b4, b6, p, cp, q, cq, rfl, rfl, rfl, rfl, HT⟩ := hcut
    obtain ⟨fi, fs, fcd⟩ := fo
    have HT2 := HT.out
    obtain ⟨c0, c1, c2, c3, c4, c5⟩ := rcells HT2.rd
    obtain ⟨e0, e1, e2⟩ := cells3 HT2.a6
    have bx : wc.cell? ⟨gb, 0, none⟩ = some (.pointer (some ⟨g, 0, none⟩)) := cell_of_heap HT2.bx rfl
    clear HT2
    by_cases her : er = 0
    case neg =>
      have hb : (er == 0) = false := by simp [her]
      have HN : Hid (¬ er = 0) := her
      have HR4 := HRES.out _ wc HT.out.fr id id
      have HR4a := HR4.1
      have HR4b := HR4.2
      go_wp2_with (first | (refine wpList_storeB rfl 36 (.tmp 1) (.tmp 29) rfl w.heap.size #[.int .i64 0, .int .i64 0, .int .i64 0, .slice none 0 0, .int .i64 0, .int .u32 0, .int .i64 0, .int .i64 0, .int .i64 0, .bool false, .int .i64 0, .slice none 0 0] #[.int .i64 0, .int .i64 0, .int .i64 0, .slice none 0 0, .int .i64 0, .int .u32 0, .int .i64 0, .int .i64 0, .int .i64 0, .bool false, .int .i64 0, .slice none 0 0] 36 rfl rfl HR4a rfl (by kernel_rfl) (by simp [Value.oneCell']) ?_; intro w5 H5 F5) | (refine wpList_storeB rfl 38 (.tmp 2) (.tmp 30) rfl (w.heap.size + 1) #[.bool false, .int .i64 0, .int .i64 0] #[.bool false, .int .i64 0, .int .i64 0] 38 rfl rfl ((F5.out.block _ (lt_of_heap HR4b) (by omega)).trans HR4b) rfl (by kernel_rfl) (by simp [Value.oneCell']) ?_; intro w6 H6 F6))
      obtain ⟨r0, r1, r2, r3, r4, r5, r6, r7, r8, r9, r10, r11⟩ := cells12 ((F6.out.block _ (lt_of_heap H5.out) (by omega)).trans H5.out)
      obtain ⟨s0, s1, s2⟩ := cells3 H6.out
      refine bodyPost_ret (v := .tuple #[.agg #[.int .i64 0, .int .i64 0, .int .i64 0, .slice none 0 0, .int .i64 0, .int .u32 0, .int .i64 0, .int .i64 0, .int .i64 0, .bool false, .int .i64 0, .slice none 0 0], .agg #[.bool false, .int .i64 0, .int .i64 0], .bool false]) (by simp [results, Try.results46, go_sem, r0, r1, r2, r3, r4, r5, r6, r7, r8, r9, r10, r11, s0, s1, s2]) rfl ?_
      have GA : Fr (fun k => k = w.heap.size ∨ k = w.heap.size + 1) wc w6 := (F5.out.mono (fun _ _ e => .inl e)).trans (F6.out.mono (fun _ _ e => .inr e))
      refine ⟨(((HFW.out.trans HT.out.fr).mono (T := fun k => k = w.heap.size ∨ k = w.heap.size + 1) (fun _ _ e => e.elim)).trans GA).mono (fun k hk e => by omega), fun _ => ⟨rfl, HT.out.rd.fr GA (by have := HLT.out; omega)⟩, fun h => absurd h HN.out⟩
    case pos =>
      subst her
      have hen : en ≤ n - at_ := HEN.out rfl
      have z2 : wc.frozen? ⟨g, 2, none⟩ = false := frozen_of_heap HT.out.rd
      have z3 : wc.frozen? ⟨g, 3, none⟩ = false := frozen_of_heap HT.out.rd
      have z4 : wc.frozen? ⟨g, 4, none⟩ = false := frozen_of_heap HT.out.rd
      have z5 : wc.frozen? ⟨g, 5, none⟩ = false := frozen_of_heap HT.out.rd
      cases fi
      case false =>
        go_upto_region 7 with (fail)
        obtain ⟨w5, hw5⟩ : ∃ w5, w5 = wc.setCell ⟨g, 2, none⟩ (.int .i64 ((at_ : Int) + (en : Int))) := ⟨_, rfl⟩
        have F5 : Hid (Fr (fun k => k = g) wc w5) := by rw [hw5]; exact (Fr.refl _ _).setB 2 _
        have R5 : Hid (RdC w5 g most (.slice a n c) (at_ + en) X) := by rw [hw5]; exact rset HT.out.rd
        rw [← hw5]
        clear hw5
        clear c0 c1 c2 c3 c4 c5 e0 e1 e2 bx
        have hA5 : FAt w5 b4 gf p cp q cq := (F5.out.block _ (lt_of_heap HT.out.a4) (by have := HT.out.g4; have := HWS.out; have := HLT.out; omega)).trans HT.out.a4
        have hB5 : w5.heap[b6]? = some (.cells #[.bool false, .int .i64 fs, .int .i64 fcd] 38 (0, 0)) := (F5.out.block _ (lt_of_heap HT.out.a6) (by have := HT.out.g6; have := HWS.out; have := HLT.out; omega)).trans HT.out.a6
        have F5W : Hid (Fr (fun k => k = g) W w5) := (HT.out.fr.mono (fun _ _ e => e.elim)).trans F5.out
        have HR5 := HRES.out _ w5 F5W.out (by have := HLT.out; omega) (by have := HLT.out; omega)
        refine wp_region_held_drew (S := fun w2 => FAt w2 b4 gf p cp q cq ∧ w2.heap[b6]? = some (.cells #[.bool false, .int .i64 fs, .int .i64 fcd] 38 (0, 0))) (by kernel_rfl) ⟨hA5, hB5⟩ (fun hHeld => ?_)
        refine wpAnyH_take (i := 0) (oi := _) (v := .agg #[.int .i64 gf.k, .int .i64 gf.fl, .int .i64 gf.st, .slice p gf.X.length cp, .int .i64 gf.pad, .int .u32 gf.code, .int .i64 gf.last, .int .i64 gf.inc, .int .i64 gf.dep, .bool gf.only, .int .i64 gf.wt, .slice q gf.Y.length cq]) rfl (by kernel_rfl) (by kernel_rfl) (by kernel_rfl) (fun _ _ _ h => h) (Or.inl ⟨by kernel_rfl, fun w2 hw => by obtain ⟨c0, c1, c2, c3, c4, c5, c6, c7, c8, c9, c10, c11⟩ := fcells hw.1; go_simp⟩) hHeld ?_
        refine wpAnyH_take (i := 1) (oi := _) (v := .agg #[.bool false, .int .i64 fs, .int .i64 fcd]) rfl (by kernel_rfl) (by kernel_rfl) (by kernel_rfl) (fun _ _ _ h => h) (Or.inl ⟨by kernel_rfl, fun w2 hw => by obtain ⟨d0, d1, d2⟩ := cells3 hw.2; go_simp⟩) hHeld ?_
        simp only [Act.put, List.getElem_toArray, List.getElem_cons_succ, List.getElem_cons_zero, List.setIfInBounds_toArray, List.set_cons_zero, List.set_cons_succ]
        refine wpAnyH_ready (rs := [2]) (by kernel_rfl) (by simp) ?_
        refine AllReadyH.cons rfl (fun K hK => ?_) AllReadyH.nil
        refine stepR_storeB rfl rfl 36 (.tmp 1) (.tmp 50) rfl w.heap.size #[.int .i64 0, .int .i64 0, .int .i64 0, .slice none 0 0, .int .i64 0, .int .u32 0, .int .i64 0, .int .i64 0, .int .i64 0, .bool false, .int .i64 0, .slice none 0 0] #[.int .i64 gf.k, .int .i64 gf.fl, .int .i64 gf.st, .slice p gf.X.length cp, .int .i64 gf.pad, .int .u32 gf.code, .int .i64 gf.last, .int .i64 gf.inc, .int .i64 gf.dep, .bool gf.only, .int .i64 gf.wt, .slice q gf.Y.length cq] 36 rfl rfl HR5.1 rfl (by kernel_rfl) (by simp [Value.oneCell']) ?_
        intro y4 H4 F4
        have hb4 : w.heap.size + 2 ≤ b4 ∧ w.heap.size + 2 ≤ b6 := by have := HT.out.g4; have := HT.out.g6; have := HWS.out; omega
        refine hK.out _ _ ⟨(F4.out.block _ (lt_of_heap hHeld.1) (by omega)).trans hHeld.1, (F4.out.block _ (lt_of_heap hHeld.2) (by omega)).trans hHeld.2⟩ (fun hHeld2 => ?_)
        clear hK K
        refine wpAnyH_ready (rs := [3]) (by kernel_rfl) (by simp) ?_
        refine AllReadyH.cons rfl (fun K hK => ?_) AllReadyH.nil
        refine stepR_storeB rfl rfl 38 (.tmp 2) (.tmp 51) rfl (w.heap.size + 1) #[.bool false, .int .i64 0, .int .i64 0] #[.bool false, .int .i64 fs, .int .i64 fcd] 38 rfl rfl ((F4.out.block _ (lt_of_heap HR5.2) (by omega)).trans HR5.2) rfl (by kernel_rfl) (by simp [Value.oneCell']) ?_
        intro y5 H5 F6
        refine hK.out _ _ ⟨(F6.out.block _ (lt_of_heap hHeld2.1) (by omega)).trans hHeld2.1, (F6.out.block _ (lt_of_heap hHeld2.2) (by omega)).trans hHeld2.2⟩ (fun hHeld3 => ?_)
        clear hK K
        refine wpAnyH_ready (rs := [4]) (by kernel_rfl) (by simp) ?_
        refine AllReadyH.cons rfl (fun K hK => ?_) AllReadyH.nil
        go_simp
        refine hK.out _ _ hHeld3 (fun _ => ?_)
        clear hK K
        refine wpAnyH_done (by kernel_rfl) ?_ _
        go_wp2_with (fail)
        obtain ⟨r0, r1, r2, r3, r4, r5, r6, r7, r8, r9, r10, r11⟩ := cells12 ((F6.out.block _ (lt_of_heap H4.out) (by omega)).trans H4.out)
        obtain ⟨s0, s1, s2⟩ := cells3 H5.out
        have FALL : Fr (fun k => k = w.heap.size ∨ k = w.heap.size + 1) w5 y5 := ((Fr.refl _ _).drew.trans (F4.out.mono (fun _ _ e => .inl e))).trans (F6.out.mono (fun _ _ e => .inr e))
        refine bodyPost_ret (v := .tuple #[.agg #[.int .i64 gf.k, .int .i64 gf.fl, .int .i64 gf.st, .slice p gf.X.length cp, .int .i64 gf.pad, .int .u32 gf.code, .int .i64 gf.last, .int .i64 gf.inc, .int .i64 gf.dep, .bool gf.only, .int .i64 gf.wt, .slice q gf.Y.length cq], .agg #[.bool false, .int .i64 fs, .int .i64 fcd], .bool true]) (by simp [results, Try.results46, go_sem, r0, r1, r2, r3, r4, r5, r6, r7, r8, r9, r10, r11, s0, s1, s2]) rfl ?_
        have GA : Fr (fun k => k = g ∨ k = w.heap.size ∨ k = w.heap.size + 1) wc y5 := (F5.out.mono (fun _ _ e => .inl e)).trans (FALL.mono (fun _ _ e => .inr e))
        refine ⟨?_, fun h => absurd rfl h, fun _ => ⟨p, cp, q, cq, rfl, ?_, ?_, fun ad e hl => (by have := HT.out.fp ad e hl; have := HWS.out; omega), fun ad e hl => (by have := HT.out.fq ad e hl; have := HWS.out; omega), ?_⟩⟩
        · exact (((HFW.out.trans HT.out.fr).mono (T := fun k => k = g ∨ k = w.heap.size ∨ k = w.heap.size + 1) (fun _ _ e => e.elim)).trans GA).mono (fun k hk e => by omega)
        · exact HT.out.src.fr GA (fun ad e hl e2 => by have := HT.out.fp ad e hl; have := HWS.out; have := HLT.out; omega)
        · exact HT.out.sets.fr GA (fun ad e hl e2 => by have := HT.out.fq ad e hl; have := HWS.out; have := HLT.out; omega)
        · refine (show RdC y5 g most (.slice a n c) (if false = true ∧ fs = 0 then at_ else at_ + en) (if false = true ∧ fs = 0 then ⟨false, fs, fcd⟩ else X) from ?_)
          rw [if_neg (by simp), if_neg (by simp)]
          exact R5.out.fr FALL (by have := HLT.out; omega)
      case true =>
        cases hs : (fs == 0)
        case false =>
          have HS0 : Hid (¬ fs = 0) := by show ¬ _; simpa using hs
          go_upto_region 7 with (fail)
          obtain ⟨w5, hw5⟩ : ∃ w5, w5 = wc.setCell ⟨g, 2, none⟩ (.int .i64 ((at_ : Int) + (en : Int))) := ⟨_, rfl⟩
          have F5 : Hid (Fr (fun k => k = g) wc w5) := by rw [hw5]; exact (Fr.refl _ _).setB 2 _
          have R5 : Hid (RdC w5 g most (.slice a n c) (at_ + en) X) := by rw [hw5]; exact rset HT.out.rd
          rw [← hw5]
          clear hw5
          clear c0 c1 c2 c3 c4 c5 e0 e1 e2 bx
          have hA5 : FAt w5 b4 gf p cp q cq := (F5.out.block _ (lt_of_heap HT.out.a4) (by have := HT.out.g4; have := HWS.out; have := HLT.out; omega)).trans HT.out.a4
          have hB5 : w5.heap[b6]? = some (.cells #[.bool true, .int .i64 fs, .int .i64 fcd] 38 (0, 0)) := (F5.out.block _ (lt_of_heap HT.out.a6) (by have := HT.out.g6; have := HWS.out; have := HLT.out; omega)).trans HT.out.a6
          have F5W : Hid (Fr (fun k => k = g) W w5) := (HT.out.fr.mono (fun _ _ e => e.elim)).trans F5.out
          have HR5 := HRES.out _ w5 F5W.out (by have := HLT.out; omega) (by have := HLT.out; omega)
          refine wp_region_held_drew (S := fun w2 => FAt w2 b4 gf p cp q cq ∧ w2.heap[b6]? = some (.cells #[.bool true, .int .i64 fs, .int .i64 fcd] 38 (0, 0))) (by kernel_rfl) ⟨hA5, hB5⟩ (fun hHeld => ?_)
          refine wpAnyH_take (i := 0) (oi := _) (v := .agg #[.int .i64 gf.k, .int .i64 gf.fl, .int .i64 gf.st, .slice p gf.X.length cp, .int .i64 gf.pad, .int .u32 gf.code, .int .i64 gf.last, .int .i64 gf.inc, .int .i64 gf.dep, .bool gf.only, .int .i64 gf.wt, .slice q gf.Y.length cq]) rfl (by kernel_rfl) (by kernel_rfl) (by kernel_rfl) (fun _ _ _ h => h) (Or.inl ⟨by kernel_rfl, fun w2 hw => by obtain ⟨c0, c1, c2, c3, c4, c5, c6, c7, c8, c9, c10, c11⟩ := fcells hw.1; go_simp⟩) hHeld ?_
          refine wpAnyH_take (i := 1) (oi := _) (v := .agg #[.bool true, .int .i64 fs, .int .i64 fcd]) rfl (by kernel_rfl) (by kernel_rfl) (by kernel_rfl) (fun _ _ _ h => h) (Or.inl ⟨by kernel_rfl, fun w2 hw => by obtain ⟨d0, d1, d2⟩ := cells3 hw.2; go_simp⟩) hHeld ?_
          simp only [Act.put, List.getElem_toArray, List.getElem_cons_succ, List.getElem_cons_zero, List.setIfInBounds_toArray, List.set_cons_zero, List.set_cons_succ]
          refine wpAnyH_ready (rs := [2]) (by kernel_rfl) (by simp) ?_
          refine AllReadyH.cons rfl (fun K hK => ?_) AllReadyH.nil
          refine stepR_storeB rfl rfl 36 (.tmp 1) (.tmp 50) rfl w.heap.size #[.int .i64 0, .int .i64 0, .int .i64 0, .slice none 0 0, .int .i64 0, .int .u32 0, .int .i64 0, .int .i64 0, .int .i64 0, .bool false, .int .i64 0, .slice none 0 0] #[.int .i64 gf.k, .int .i64 gf.fl, .int .i64 gf.st, .slice p gf.X.length cp, .int .i64 gf.pad, .int .u32 gf.code, .int .i64 gf.last, .int .i64 gf.inc, .int .i64 gf.dep, .bool gf.only, .int .i64 gf.wt, .slice q gf.Y.length cq] 36 rfl rfl HR5.1 rfl (by kernel_rfl) (by simp [Value.oneCell']) ?_
          intro y4 H4 F4
          have hb4 : w.heap.size + 2 ≤ b4 ∧ w.heap.size + 2 ≤ b6 := by have := HT.out.g4; have := HT.out.g6; have := HWS.out; omega
          refine hK.out _ _ ⟨(F4.out.block _ (lt_of_heap hHeld.1) (by omega)).trans hHeld.1, (F4.out.block _ (lt_of_heap hHeld.2) (by omega)).trans hHeld.2⟩ (fun hHeld2 => ?_)
          clear hK K
          refine wpAnyH_ready (rs := [3]) (by kernel_rfl) (by simp) ?_
          refine AllReadyH.cons rfl (fun K hK => ?_) AllReadyH.nil
          refine stepR_storeB rfl rfl 38 (.tmp 2) (.tmp 51) rfl (w.heap.size + 1) #[.bool false, .int .i64 0, .int .i64 0] #[.bool true, .int .i64 fs, .int .i64 fcd] 38 rfl rfl ((F4.out.block _ (lt_of_heap HR5.2) (by omega)).trans HR5.2) rfl (by kernel_rfl) (by simp [Value.oneCell']) ?_
          intro y5 H5 F6
          refine hK.out _ _ ⟨(F6.out.block _ (lt_of_heap hHeld2.1) (by omega)).trans hHeld2.1, (F6.out.block _ (lt_of_heap hHeld2.2) (by omega)).trans hHeld2.2⟩ (fun hHeld3 => ?_)
          clear hK K
          refine wpAnyH_ready (rs := [4]) (by kernel_rfl) (by simp) ?_
          refine AllReadyH.cons rfl (fun K hK => ?_) AllReadyH.nil
          go_simp
          refine hK.out _ _ hHeld3 (fun _ => ?_)
          clear hK K
          refine wpAnyH_done (by kernel_rfl) ?_ _
          go_wp2_with (fail)
          obtain ⟨r0, r1, r2, r3, r4, r5, r6, r7, r8, r9, r10, r11⟩ := cells12 ((F6.out.block _ (lt_of_heap H4.out) (by omega)).trans H4.out)
          obtain ⟨s0, s1, s2⟩ := cells3 H5.out
          have FALL : Fr (fun k => k = w.heap.size ∨ k = w.heap.size + 1) w5 y5 := ((Fr.refl _ _).drew.trans (F4.out.mono (fun _ _ e => .inl e))).trans (F6.out.mono (fun _ _ e => .inr e))
          refine bodyPost_ret (v := .tuple #[.agg #[.int .i64 gf.k, .int .i64 gf.fl, .int .i64 gf.st, .slice p gf.X.length cp, .int .i64 gf.pad, .int .u32 gf.code, .int .i64 gf.last, .int .i64 gf.inc, .int .i64 gf.dep, .bool gf.only, .int .i64 gf.wt, .slice q gf.Y.length cq], .agg #[.bool true, .int .i64 fs, .int .i64 fcd], .bool true]) (by simp [results, Try.results46, go_sem, r0, r1, r2, r3, r4, r5, r6, r7, r8, r9, r10, r11, s0, s1, s2]) rfl ?_
          have GA : Fr (fun k => k = g ∨ k = w.heap.size ∨ k = w.heap.size + 1) wc y5 := (F5.out.mono (fun _ _ e => .inl e)).trans (FALL.mono (fun _ _ e => .inr e))
          refine ⟨?_, fun h => absurd rfl h, fun _ => ⟨p, cp, q, cq, rfl, ?_, ?_, fun ad e hl => (by have := HT.out.fp ad e hl; have := HWS.out; omega), fun ad e hl => (by have := HT.out.fq ad e hl; have := HWS.out; omega), ?_⟩⟩
          · exact (((HFW.out.trans HT.out.fr).mono (T := fun k => k = g ∨ k = w.heap.size ∨ k = w.heap.size + 1) (fun _ _ e => e.elim)).trans GA).mono (fun k hk e => by omega)
          · exact HT.out.src.fr GA (fun ad e hl e2 => by have := HT.out.fp ad e hl; have := HWS.out; have := HLT.out; omega)
          · exact HT.out.sets.fr GA (fun ad e hl e2 => by have := HT.out.fq ad e hl; have := HWS.out; have := HLT.out; omega)
          · refine (show RdC y5 g most (.slice a n c) (if true = true ∧ fs = 0 then at_ else at_ + en) (if true = true ∧ fs = 0 then ⟨true, fs, fcd⟩ else X) from ?_)
            rw [if_neg (fun h => HS0.out h.2), if_neg (fun h => HS0.out h.2)]
            exact R5.out.fr FALL (by have := HLT.out; omega)
        case true =>
          have HS0 : Hid (fs = 0) := by show _ = _; simpa using hs
          go_upto_region 7 with (fail)
          obtain ⟨w5, hw5⟩ : ∃ w5, w5 = ((wc.setCell ⟨g, 3, none⟩ (.bool true)).setCell ⟨g, 4, none⟩ (.int .i64 fs)).setCell ⟨g, 5, none⟩ (.int .i64 fcd) := ⟨_, rfl⟩
          have F5 : Hid (Fr (fun k => k = g) wc w5) := by rw [hw5]; exact (((Fr.refl _ _).setB 3 _).setB 4 _).setB 5 _
          have R5 : Hid (RdC w5 g most (.slice a n c) at_ ⟨true, fs, fcd⟩) := by rw [hw5]; exact rset (rset (rset HT.out.rd))
          rw [← hw5]
          clear hw5
          clear c0 c1 c2 c3 c4 c5 e0 e1 e2 bx
          have hA5 : FAt w5 b4 gf p cp q cq := (F5.out.block _ (lt_of_heap HT.out.a4) (by have := HT.out.g4; have := HWS.out; have := HLT.out; omega)).trans HT.out.a4
          have hB5 : w5.heap[b6]? = some (.cells #[.bool true, .int .i64 fs, .int .i64 fcd] 38 (0, 0)) := (F5.out.block _ (lt_of_heap HT.out.a6) (by have := HT.out.g6; have := HWS.out; have := HLT.out; omega)).trans HT.out.a6
          have F5W : Hid (Fr (fun k => k = g) W w5) := (HT.out.fr.mono (fun _ _ e => e.elim)).trans F5.out
          have HR5 := HRES.out _ w5 F5W.out (by have := HLT.out; omega) (by have := HLT.out; omega)
          refine wp_region_held_drew (S := fun w2 => FAt w2 b4 gf p cp q cq ∧ w2.heap[b6]? = some (.cells #[.bool true, .int .i64 fs, .int .i64 fcd] 38 (0, 0))) (by kernel_rfl) ⟨hA5, hB5⟩ (fun hHeld => ?_)
          refine wpAnyH_take (i := 0) (oi := _) (v := .agg #[.int .i64 gf.k, .int .i64 gf.fl, .int .i64 gf.st, .slice p gf.X.length cp, .int .i64 gf.pad, .int .u32 gf.code, .int .i64 gf.last, .int .i64 gf.inc, .int .i64 gf.dep, .bool gf.only, .int .i64 gf.wt, .slice q gf.Y.length cq]) rfl (by kernel_rfl) (by kernel_rfl) (by kernel_rfl) (fun _ _ _ h => h) (Or.inl ⟨by kernel_rfl, fun w2 hw => by obtain ⟨c0, c1, c2, c3, c4, c5, c6, c7, c8, c9, c10, c11⟩ := fcells hw.1; go_simp⟩) hHeld ?_
          refine wpAnyH_take (i := 1) (oi := _) (v := .agg #[.bool true, .int .i64 fs, .int .i64 fcd]) rfl (by kernel_rfl) (by kernel_rfl) (by kernel_rfl) (fun _ _ _ h => h) (Or.inl ⟨by kernel_rfl, fun w2 hw => by obtain ⟨d0, d1, d2⟩ := cells3 hw.2; go_simp⟩) hHeld ?_
          simp only [Act.put, List.getElem_toArray, List.getElem_cons_succ, List.getElem_cons_zero, List.setIfInBounds_toArray, List.set_cons_zero, List.set_cons_succ]
          refine wpAnyH_ready (rs := [2]) (by kernel_rfl) (by simp) ?_
          refine AllReadyH.cons rfl (fun K hK => ?_) AllReadyH.nil
          refine stepR_storeB rfl rfl 36 (.tmp 1) (.tmp 50) rfl w.heap.size #[.int .i64 0, .int .i64 0, .int .i64 0, .slice none 0 0, .int .i64 0, .int .u32 0, .int .i64 0, .int .i64 0, .int .i64 0, .bool false, .int .i64 0, .slice none 0 0] #[.int .i64 gf.k, .int .i64 gf.fl, .int .i64 gf.st, .slice p gf.X.length cp, .int .i64 gf.pad, .int .u32 gf.code, .int .i64 gf.last, .int .i64 gf.inc, .int .i64 gf.dep, .bool gf.only, .int .i64 gf.wt, .slice q gf.Y.length cq] 36 rfl rfl HR5.1 rfl (by kernel_rfl) (by simp [Value.oneCell']) ?_
          intro y4 H4 F4
          have hb4 : w.heap.size + 2 ≤ b4 ∧ w.heap.size + 2 ≤ b6 := by have := HT.out.g4; have := HT.out.g6; have := HWS.out; omega
          refine hK.out _ _ ⟨(F4.out.block _ (lt_of_heap hHeld.1) (by omega)).trans hHeld.1, (F4.out.block _ (lt_of_heap hHeld.2) (by omega)).trans hHeld.2⟩ (fun hHeld2 => ?_)
          clear hK K
          refine wpAnyH_ready (rs := [3]) (by kernel_rfl) (by simp) ?_
          refine AllReadyH.cons rfl (fun K hK => ?_) AllReadyH.nil
          refine stepR_storeB rfl rfl 38 (.tmp 2) (.tmp 51) rfl (w.heap.size + 1) #[.bool false, .int .i64 0, .int .i64 0] #[.bool true, .int .i64 fs, .int .i64 fcd] 38 rfl rfl ((F4.out.block _ (lt_of_heap HR5.2) (by omega)).trans HR5.2) rfl (by kernel_rfl) (by simp [Value.oneCell']) ?_
          intro y5 H5 F6
          refine hK.out _ _ ⟨(F6.out.block _ (lt_of_heap hHeld2.1) (by omega)).trans hHeld2.1, (F6.out.block _ (lt_of_heap hHeld2.2) (by omega)).trans hHeld2.2⟩ (fun hHeld3 => ?_)
          clear hK K
          refine wpAnyH_ready (rs := [4]) (by kernel_rfl) (by simp) ?_
          refine AllReadyH.cons rfl (fun K hK => ?_) AllReadyH.nil
          go_simp
          refine hK.out _ _ hHeld3 (fun _ => ?_)
          clear hK K
          refine wpAnyH_done (by kernel_rfl) ?_ _
          go_wp2_with (fail)
          obtain ⟨r0, r1, r2, r3, r4, r5, r6, r7, r8, r9, r10, r11⟩ := cells12 ((F6.out.block _ (lt_of_heap H4.out) (by omega)).trans H4.out)
          obtain ⟨s0, s1, s2⟩ := cells3 H5.out
          have FALL : Fr (fun k => k = w.heap.size ∨ k = w.heap.size + 1) w5 y5 := ((Fr.refl _ _).drew.trans (F4.out.mono (fun _ _ e => .inl e))).trans (F6.out.mono (fun _ _ e => .inr e))
          refine bodyPost_ret (v := .tuple #[.agg #[.int .i64 gf.k, .int .i64 gf.fl, .int .i64 gf.st, .slice p gf.X.length cp, .int .i64 gf.pad, .int .u32 gf.code, .int .i64 gf.last, .int .i64 gf.inc, .int .i64 gf.dep, .bool gf.only, .int .i64 gf.wt, .slice q gf.Y.length cq], .agg #[.bool true, .int .i64 fs, .int .i64 fcd], .bool true]) (by simp [results, Try.results46, go_sem, r0, r1, r2, r3, r4, r5, r6, r7, r8, r9, r10, r11, s0, s1, s2]) rfl ?_
          have GA : Fr (fun k => k = g ∨ k = w.heap.size ∨ k = w.heap.size + 1) wc y5 := (F5.out.mono (fun _ _ e => .inl e)).trans (FALL.mono (fun _ _ e => .inr e))
          refine ⟨?_, fun h => absurd rfl h, fun _ => ⟨p, cp, q, cq, rfl, ?_, ?_, fun ad e hl => (by have := HT.out.fp ad e hl; have := HWS.out; omega), fun ad e hl => (by have := HT.out.fq ad e hl; have := HWS.out; omega), ?_⟩⟩
          · exact (((HFW.out.trans HT.out.fr).mono (T := fun k => k = g ∨ k = w.heap.size ∨ k = w.heap.size + 1) (fun _ _ e => e.elim)).trans GA).mono (fun k hk e => by omega)
          · exact HT.out.src.fr GA (fun ad e hl e2 => by have := HT.out.fp ad e hl; have := HWS.out; have := HLT.out; omega)
          · exact HT.out.sets.fr GA (fun ad e hl e2 => by have := HT.out.fq ad e hl; have := HWS.out; have := HLT.out; omega)
          · refine (show RdC y5 g most (.slice a n c) (if true = true ∧ fs = 0 then at_ else at_ + en) (if true = true ∧ fs = 0 then ⟨true, fs, fcd⟩ else X) from ?_)
            rw [if_pos ⟨rfl, HS0.out⟩, if_pos ⟨rfl, HS0.out⟩]
            exact R5.out.fr FALL (by have := HLT.out; omega)
end Go.Proofs.Ytikaefjhmgcidaa
