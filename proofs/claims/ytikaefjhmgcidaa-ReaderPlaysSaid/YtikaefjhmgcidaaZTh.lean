/- Contract of the document's reader's Next. -/
import Derived.Test.YtikaefjhmgcidaaZTg
import Derived.Test.YtikaefjhmgcidaaZTc
import Derived.Test.YtikaefjhmgcidaaZRr
import Derived.Test.YtikaefjhmgcidaaZMRa
import Derived.Deep.CutRange
import Derived.Deep.LoopGhost
namespace Go.Proofs.Ytikaefjhmgcidaa
open Go.RowKit
set_option linter.unusedVariables false
set_option maxRecDepth 100000
set_option maxHeartbeats 4000000

/-- Where its loop stands. -/
structure NdS (w : World) (g : Nat) (most : Int) (v : Value) (B : List UInt8) (X : Flt) (ob : Option Nat) (wr : World) : Prop where
  rd : RC2 wr g most v X
  own : OwnAt wr 5 v (bv B)
  r1 : wr.heap[w.heap.size]? = some (.cells #[.int .i64 0, .int .i64 0, .int .i64 0, .slice none 0 0, .int .i64 0, .int .u32 0, .int .i64 0, .int .i64 0, .int .i64 0, .bool false, .int .i64 0, .slice none 0 0] 36 (0, 0))
  r2 : wr.heap[w.heap.size + 1]? = some (.cells #[.bool false, .int .i64 0, .int .i64 0] 38 (0, 0))
  new : v.ownBlock = ob ∨ ∃ k, v.ownBlock = some k ∧ w.heap.size + 2 ≤ k
  old : ∀ k, ob = some k → k < w.heap.size
  fr : Fr (fun k => k = g) w wr
  lt : g < w.heap.size
theorem NdS.later {w : World} {g : Nat} {most : Int} {v : Value} {B : List UInt8} {X : Flt} {ob : Option Nat} {wr w2 : World} (h : NdS w g most v B X ob wr) (hf : Fr (fun _ => False) wr w2) : NdS w g most v B X ob w2 :=
  ⟨h.rd.fr hf id, h.own.fr hf (fun _ _ => id), (hf.block _ (lt_of_heap h.r1) id).trans h.r1, (hf.block _ (lt_of_heap h.r2) id).trans h.r2, h.new, h.old, h.fr.trans (hf.mono (fun _ _ e => e.elim)), h.lt⟩
theorem NdS.big {w : World} {g : Nat} {most : Int} {v : Value} {B : List UInt8} {X : Flt} {ob : Option Nat} {wr : World} (h : NdS w g most v B X ob wr) : w.heap.size + 2 ≤ wr.heap.size := by have := lt_of_heap h.r2; omega
/-- The results' blocks are written: the reader stays. -/
theorem NdS.done {w : World} {g : Nat} {most : Int} {v : Value} {B : List UInt8} {X : Flt} {ob : Option Nat} {wr w2 : World} (h : NdS w g most v B X ob wr) (hf : Fr (fun k => k = w.heap.size ∨ k = w.heap.size + 1) wr w2) : RRd w2 g most B X v.ownBlock ∧ Fr (fun k => k = g) w w2 := by
  have hv : ∃ a n c, v = .slice a n c := by obtain ⟨a, c, e, -⟩ := h.own.form; exact ⟨a, _, c, e⟩
  obtain ⟨a, n, c, rfl⟩ := hv
  refine ⟨⟨a, n, c, h.rd.fr hf (by have := h.lt; omega), h.own.fr hf (fun k hk => ?_), rfl⟩, ?_⟩
  · rcases h.new with e | ⟨j, hj, hj2⟩
    · have := h.old k (e ▸ hk); omega
    · rw [hj] at hk; cases hk; omega
  · exact ((h.fr.mono (T := fun k => k = g ∨ k = w.heap.size ∨ k = w.heap.size + 1) (fun _ _ e => .inl e)).trans (hf.mono (fun _ _ e => .inr e))).mono (fun k hk e => by omega)
/-- What its Next answers. -/
def RNextAs (w : World) (g : Nat) (most : Int) (ob : Option Nat) (r : (Fra × Bool × Flt) × List UInt8 × Flt) (e : Ending) (w' : World) : Prop :=
  ∃ p cp q cq ob', e = .returned (.tuple #[.agg #[.int .i64 r.1.1.k, .int .i64 r.1.1.fl, .int .i64 r.1.1.st, .slice p r.1.1.X.length cp, .int .i64 r.1.1.pad, .int .u32 r.1.1.code, .int .i64 r.1.1.last, .int .i64 r.1.1.inc, .int .i64 r.1.1.dep, .bool r.1.1.only, .int .i64 r.1.1.wt, .slice q r.1.1.Y.length cq], .bool r.1.2.1, .agg #[.bool r.1.2.2.is, .int .i64 r.1.2.2.st, .int .i64 r.1.2.2.code]]) ∧ SrcAt w' p r.1.1.X ∧ SetsAt w' q cq r.1.1.Y ∧ RRd w' g most r.2.1 r.2.2 ob' ∧ Fr (fun k => k = g) w w' ∧ (ob' = ob ∨ ∃ k, ob' = some k ∧ w.heap.size ≤ k)
/-- Where it stands behind Parse. -/
structure NkF (w W : World) (g : Nat) (most : Int) (v : Value) (B : List UInt8) (X : Flt) (ob : Option Nat) (gf : Fra) (fo : Flt) (p : Option Addr) (cp : Nat) (q : Option Addr) (cq b4 b6 : Nat) (wc : World) : Prop where
  st : NdS w g most v B X ob wc
  a4 : FAt wc b4 gf p cp q cq
  a6 : wc.heap[b6]? = some (.cells #[.bool fo.is, .int .i64 fo.st, .int .i64 fo.code] 38 (0, 0))
  src : SrcAt wc p gf.X
  sets : SetsAt wc q cq gf.Y
  fp : ∀ ad, p = some ad → 0 < gf.X.length → W.heap.size ≤ ad.block
  fq : ∀ ad, q = some ad → 0 < gf.Y.length → W.heap.size ≤ ad.block
  g4 : W.heap.size ≤ b4
  g6 : W.heap.size ≤ b6
  ne : b4 ≠ b6
  fr : Fr (fun _ => False) W wc

theorem rnNext_in (g : Nat) (most : Int) (B0 : List UInt8) (X0 : Flt) (ob : Option Nat) (w : World) (h : RRd w g most B0 X0 ob) (hB : B0.length ≤ 225179981368371) (hmost : (Lit.int .i64 most).wf = true) :
    Calls Try.prog 13 #[.pointer (some ⟨g, 0, none⟩)] w fun e w' => RNextAs w g most ob (nextR most B0 X0) e w' := by
  obtain ⟨a0, n0, c0, hrd, how, hob⟩ := h
  obtain ⟨W0, hW0⟩ : ∃ W0, W0 = (w.alloc (.cells #[.int .i64 0, .int .i64 0, .int .i64 0, .slice none 0 0, .int .i64 0, .int .u32 0, .int .i64 0, .int .i64 0, .int .i64 0, .bool false, .int .i64 0, .slice none 0 0] 36)).alloc (.cells #[.bool false, .int .i64 0, .int .i64 0] 38) := ⟨_, rfl⟩
  have HS0 : Hid (NdS w g most (.slice a0 n0 c0) B0 X0 ob W0) := by
    have hf : Fr (fun _ => False) w W0 := by rw [hW0]; exact ((Fr.refl _ _).alloc _).alloc _
    refine ⟨hrd.fr hf id, how.fr hf (fun _ _ => id), ?_, ?_, .inl hob, fun k hk => how.lt k (hob.trans hk), hf.mono (fun _ _ e => e.elim), hrd.lt⟩
    · rw [hW0]; exact past_at _ (heap_alloc_new w _)
    · rw [hW0]; exact last_at _ (by simp)
  obtain ⟨out, hout⟩ : ∃ out, nextR most B0 X0 = out := ⟨_, rfl⟩
  have HO : Hid (nextR most B0 X0 = out) := hout
  rw [hout]
  have HMO : Hid ((Lit.int .i64 most).wf = true) := hmost
  clear hout hrd how hob hmost
  go_enter Try.func13, Try.ntmps13
  go_wp2_with (fail)
  rw [← hW0]
  clear hW0
  go_loopg [8] (2 * B0.length + (if X0.is = true then 0 else 1)) (fun gk v8 wr => ∃ (a : Option Addr) (n c : Nat) (B : List UInt8) (X : Flt), Hid (gk = 2 * B.length + (if X.is = true then 0 else 1) ∧ B.length ≤ 225179981368371 ∧ NdS w g most (.slice a n c) B X ob wr ∧ nextR most B X = out))
  case atStart => exact ⟨a0, n0, c0, B0, X0, rfl, hB, HS0.out, HO.out⟩
  case round =>
    rename World => W
    obtain ⟨a, n, c, B, X, HR⟩ := hrel
    have hgk := HR.out.1
    have hBb := HR.out.2.1
    have HSW : Hid (NdS w g most (.slice a n c) B X ob W) := HR.out.2.2.1
    have HOUT : Hid (nextR most B X = out) := HR.out.2.2.2
    have HGK : Hid (gk = 2 * B.length + (if X.is = true then 0 else 1)) := hgk
    have HWS : Hid (w.heap.size + 2 ≤ W.heap.size) := HSW.out.big
    have HLT : Hid (g < w.heap.size) := HSW.out.lt
    have HBN : Hid (n = B.length) := (own_len HSW.out.own).1
    have HNC : Hid (n ≤ c) := (own_len HSW.out.own).2
    clear hgk HR
    obtain ⟨c0, c1, c2, c3, c4⟩ := r2cells HSW.out.rd
    cases hX : X.is
    case true =>
      rw [hX] at c2
      have HX : Hid (X.is = true) := hX
      have HE : Hid (out = ((zeroF, false, X), B, X)) := by show _ = _; rw [← HOUT.out, nextR_eq, if_pos hX]
      clear hX
      go_wp2_with (fail)
      refine wp_region_held_drew (S := fun w2 => RC2 w2 g most (.slice a n c) X) (by kernel_rfl) HSW.out.rd (fun hHeld => ?_)
      refine wpAnyH_take (i := 0) (oi := _) (v := .agg #[.int .i64 0, .int .i64 0, .int .i64 0, .slice none 0 0, .int .i64 0, .int .u32 0, .int .i64 0, .int .i64 0, .int .i64 0, .bool false, .int .i64 0, .slice none 0 0]) rfl (by kernel_rfl) (by kernel_rfl) (by kernel_rfl) (fun _ _ _ h => h) (Or.inl ⟨by kernel_rfl, fun w2 hw => by go_simp⟩) hHeld ?_
      refine wpAnyH_take (i := 1) (oi := _) (v := .pointer (some ⟨g, 0, none⟩)) rfl (by kernel_rfl) (by kernel_rfl) (by kernel_rfl) (fun _ _ _ h => h) (Or.inl ⟨by kernel_rfl, fun w2 hw => by go_simp⟩) hHeld ?_
      refine wpAnyH_take (i := 2) (oi := _) (v := .pointer (some ⟨g, 0, none⟩)) rfl (by kernel_rfl) (by kernel_rfl) (by kernel_rfl) (fun _ _ _ h => h) (Or.inl ⟨by kernel_rfl, fun w2 hw => by go_simp⟩) hHeld ?_
      refine wpAnyH_take (i := 3) (oi := _) (v := .pointer (some ⟨g, 2, none⟩)) rfl (by kernel_rfl) (by kernel_rfl) (by kernel_rfl) (fun _ _ _ h => h) (Or.inl ⟨by kernel_rfl, fun w2 hw => by go_simp⟩) hHeld ?_
      refine wpAnyH_take (i := 4) (oi := _) (v := .agg #[.bool X.is, .int .i64 X.st, .int .i64 X.code]) rfl (by kernel_rfl) (by kernel_rfl) (by kernel_rfl) (fun _ _ _ h => h) (Or.inl ⟨by kernel_rfl, fun w2 hw => by obtain ⟨d0, d1, d2, d3, d4⟩ := r2cells hw; go_simp⟩) hHeld ?_
      simp only [Act.put, List.getElem_toArray, List.getElem_cons_succ, List.getElem_cons_zero, List.setIfInBounds_toArray, List.set_cons_zero, List.set_cons_succ]
      refine wpAnyH_ready (rs := [5]) (by kernel_rfl) (by simp) ?_
      refine AllReadyH.cons rfl (fun K hK => ?_) AllReadyH.nil
      refine stepR_storeB rfl rfl 36 (.tmp 2) (.tmp 14) rfl w.heap.size #[.int .i64 0, .int .i64 0, .int .i64 0, .slice none 0 0, .int .i64 0, .int .u32 0, .int .i64 0, .int .i64 0, .int .i64 0, .bool false, .int .i64 0, .slice none 0 0] #[.int .i64 0, .int .i64 0, .int .i64 0, .slice none 0 0, .int .i64 0, .int .u32 0, .int .i64 0, .int .i64 0, .int .i64 0, .bool false, .int .i64 0, .slice none 0 0] 36 rfl rfl HSW.out.r1 rfl (by kernel_rfl) (by simp [Value.oneCell']) ?_
      intro w5 H5 G5
      refine hK.out _ _ (hHeld.fr G5.out (by have := HLT.out; omega)) (fun hHeld2 => ?_)
      clear hK K
      refine wpAnyH_ready (rs := [6]) (by kernel_rfl) (by simp) ?_
      refine AllReadyH.cons rfl (fun K hK => ?_) AllReadyH.nil
      go_simp
      refine hK.out _ _ hHeld2 (fun _ => ?_)
      clear hK K
      refine wpAnyH_ready (rs := [7]) (by kernel_rfl) (by simp) ?_
      refine AllReadyH.cons rfl (fun K hK => ?_) AllReadyH.nil
      refine stepR_storeB rfl rfl 38 (.tmp 4) (.tmp 18) rfl (w.heap.size + 1) #[.bool false, .int .i64 0, .int .i64 0] #[.bool X.is, .int .i64 X.st, .int .i64 X.code] 38 rfl rfl ((G5.out.block _ (lt_of_heap HSW.out.r2) (by omega)).trans HSW.out.r2) rfl (by kernel_rfl) (by simp [Value.oneCell']) ?_
      intro w6 H6 G6
      refine hK.out _ _ (hHeld2.fr G6.out (by have := HLT.out; omega)) (fun _ => ?_)
      clear hK K
      refine wpAnyH_done (by kernel_rfl) ?_ _
      go_wp2_with (fail)
      try simp only [Exit.jump]
      obtain ⟨r0, r1, r2, r3, r4, r5, r6, r7, r8, r9, r10, r11⟩ := cells12 ((G6.out.block _ (lt_of_heap H5.out) (by omega)).trans H5.out)
      obtain ⟨s0, s1, s2⟩ := cells3 H6.out
      refine bodyPost_ret (v := .tuple #[.agg #[.int .i64 0, .int .i64 0, .int .i64 0, .slice none 0 0, .int .i64 0, .int .u32 0, .int .i64 0, .int .i64 0, .int .i64 0, .bool false, .int .i64 0, .slice none 0 0], .bool false, .agg #[.bool X.is, .int .i64 X.st, .int .i64 X.code]]) (by simp [results, Try.results13, go_sem, r0, r1, r2, r3, r4, r5, r6, r7, r8, r9, r10, r11, s0, s1, s2]) rfl ?_
      have FALL : Fr (fun k => k = w.heap.size ∨ k = w.heap.size + 1) W w6 := ((Fr.refl _ _).drew).trans ((G5.out.mono (fun _ _ e => .inl e)).trans (G6.out.mono (fun _ _ e => .inr e)))
      rw [HE.out]
      have hdn := HSW.out.done FALL
      refine ⟨none, 0, none, 0, _, rfl, SrcAt.nil _ _, SetsAt.nil _, hdn.1, hdn.2, ?_⟩
      rcases HSW.out.new with e | ⟨k, hk, hk2⟩
      · exact .inl e
      · exact .inr ⟨k, hk, by omega⟩
    case false =>
      rw [hX] at c2
      have HX : Hid (X.is = false) := hX
      obtain ⟨⟨gf, en, fo, er⟩, hu⟩ : ∃ u, parseO B most = u := ⟨_, rfl⟩
      have KP : Hid (∀ w', Fr (fun _ => False) W w' → Calls Try.prog 24 #[.slice a n c, .int .i64 most] w' fun e w2 => ParsedNew w' (gf, en, fo, er) e w2) := fun w' hf => by
        have hk := rParse_new a n c B most w' (own_src (HSW.out.own.fr hf (fun _ _ => id))) HBN.out.symm HNC.out (by rw [HBN.out]; omega) HMO.out
        rw [hu] at hk
        exact hk
      have HNX : Hid (out = if er ≠ 0 then ((zeroF, false, ⟨false, 0, 0⟩), B, X) else if fo.is = true ∧ fo.st = 0 then ((zeroF, false, fo), B, fo) else if fo.is = true then ((zeroF, false, fo), B.drop en, X) else if knownB gf.k = true then ((gf, true, ⟨false, 0, 0⟩), B.drop en, X) else nextR most (B.drop en) X) := by
        show _ = _
        rw [← HOUT.out, nextR_eq, hu, if_neg (by rw [hX]; simp)]
      have HEN : Hid (er = 0 → 9 ≤ en ∧ en ≤ n) := fun he => by
        have := (parse_more (B := B) (most := most) (by rw [hu]; exact he)).1
        rw [hu] at this
        rw [HBN.out]; exact this
      have HKEEP : Hid (∀ w', Fr (fun _ => False) W w' → RC2 w' g most (.slice a n c) X) := fun w' hf => HSW.out.rd.fr hf id
      have hgk2 : gk = 2 * B.length + 1 := by have := HGK.out; rw [hX] at this; simpa using this
      clear hX hu
      go_upto_region 3 with (fail)
      clear c0 c1 c2 c3 c4
      go_cut [5, 6, 7, 8] from 9 to 67 (fun s5 s6 s7 s8 wc => ∃ (b4 b6 : Nat) (p : Option Addr) (cp : Nat) (q : Option Addr) (cq : Nat), s5 = .pointer (some ⟨b4, 0, none⟩) ∧ s6 = .int .i64 (en : Int) ∧ s7 = .pointer (some ⟨b6, 0, none⟩) ∧ s8 = .int .i64 er ∧ Hid (NkF w W g most (.slice a n c) B X ob gf fo p cp q cq b4 b6 wc))
      case first =>
        refine wp_region_held_drew (S := fun w2 => RC2 w2 g most (.slice a n c) X) (by kernel_rfl) (HKEEP.out _ ((Fr.refl _ _).drew)) (fun hHeld => ?_)
        refine wpAnyH_take (i := 0) (oi := _) (v := .pointer (some ⟨g, 0, none⟩)) rfl (by kernel_rfl) (by kernel_rfl) (by kernel_rfl) (fun _ _ _ h => h) (Or.inl ⟨by kernel_rfl, fun w2 hw => by go_simp⟩) hHeld ?_
        refine wpAnyH_take (i := 1) (oi := _) (v := .pointer (some ⟨g, 0, none⟩)) rfl (by kernel_rfl) (by kernel_rfl) (by kernel_rfl) (fun _ _ _ h => h) (Or.inl ⟨by kernel_rfl, fun w2 hw => by go_simp⟩) hHeld ?_
        refine wpAnyH_take (i := 2) (oi := _) (v := .pointer (some ⟨g, 1, none⟩)) rfl (by kernel_rfl) (by kernel_rfl) (by kernel_rfl) (fun _ _ _ h => h) (Or.inl ⟨by kernel_rfl, fun w2 hw => by go_simp⟩) hHeld ?_
        refine wpAnyH_take (i := 3) (oi := _) (v := .slice a n c) rfl (by kernel_rfl) (by kernel_rfl) (by kernel_rfl) (fun _ _ _ h => h) (Or.inl ⟨by kernel_rfl, fun w2 hw => by obtain ⟨c0, c1, c2, c3, c4⟩ := r2cells hw; go_simp⟩) hHeld ?_
        refine wpAnyH_take (i := 4) (oi := _) (v := .pointer (some ⟨g, 0, none⟩)) rfl (by kernel_rfl) (by kernel_rfl) (by kernel_rfl) (fun _ _ _ h => h) (Or.inl ⟨by kernel_rfl, fun w2 hw => by go_simp⟩) hHeld ?_
        refine wpAnyH_take (i := 5) (oi := _) (v := .pointer (some ⟨g, 0, none⟩)) rfl (by kernel_rfl) (by kernel_rfl) (by kernel_rfl) (fun _ _ _ h => h) (Or.inl ⟨by kernel_rfl, fun w2 hw => by go_simp⟩) hHeld ?_
        refine wpAnyH_take (i := 6) (oi := _) (v := .pointer (some ⟨g, 0, none⟩)) rfl (by kernel_rfl) (by kernel_rfl) (by kernel_rfl) (fun _ _ _ h => h) (Or.inl ⟨by kernel_rfl, fun w2 hw => by go_simp⟩) hHeld ?_
        refine wpAnyH_take (i := 7) (oi := _) (v := .int .i64 most) rfl (by kernel_rfl) (by kernel_rfl) (by kernel_rfl) (fun _ _ _ h => h) (Or.inl ⟨by kernel_rfl, fun w2 hw => by obtain ⟨c0, c1, c2, c3, c4⟩ := r2cells hw; go_simp⟩) hHeld ?_
        simp only [Act.put, List.getElem_toArray, List.getElem_cons_succ, List.getElem_cons_zero, List.setIfInBounds_toArray, List.set_cons_zero, List.set_cons_succ]
        obtain ⟨w0, hw0⟩ : ∃ w0, w0 = W.drew := ⟨_, rfl⟩
        have F0 : Hid (Fr (fun _ => False) W w0) := by rw [hw0]; exact (Fr.refl _ _).drew
        rw [← hw0] at hHeld ⊢
        clear hw0
        refine wpAnyH_ready (rs := [8, 14, 15]) (by kernel_rfl) (by simp) ?_
        refine AllReadyH.cons rfl (fun K hK => ?_) (AllReadyH.cons rfl (fun K hK => ?_) (AllReadyH.cons rfl (fun K hK => ?_) AllReadyH.nil))
        · go_simp
          refine (KP.out _ F0.out).mono ?_
          rintro e w1 ⟨p, cp, q, cq, rfl, hX1, hY1, hf1, hp1, hq1⟩
          have F1 : Hid (Fr (fun _ => False) W w1) := F0.out.trans hf1
          have P1 : Hid (SrcAt w1 p gf.X ∧ SetsAt w1 q cq gf.Y ∧ (∀ ad, p = some ad → 0 < gf.X.length → w0.heap.size ≤ ad.block ∧ ad.block < w1.heap.size) ∧ (∀ ad, q = some ad → 0 < gf.Y.length → w0.heap.size ≤ ad.block ∧ ad.block < w1.heap.size)) := ⟨hX1, hY1, fun ad e hl => ⟨hp1 ad e hl, srcB_lt hX1 ad e hl⟩, fun ad e hl => ⟨hq1 ad e hl, sets_lt hY1 ad e hl⟩⟩
          have Z1 : Hid (w0.heap.size ≤ w1.heap.size) := hf1.size
          refine hK.out _ _ (HKEEP.out _ F1.out) (fun hHeld1 => ?_)
          clear hK K hX1 hY1 hf1 hp1 hq1
          refine wpAnyH_take (i := 9) (oi := _) (v := .tuple #[.agg #[.int .i64 gf.k, .int .i64 gf.fl, .int .i64 gf.st, .slice p gf.X.length cp, .int .i64 gf.pad, .int .u32 gf.code, .int .i64 gf.last, .int .i64 gf.inc, .int .i64 gf.dep, .bool gf.only, .int .i64 gf.wt, .slice q gf.Y.length cq], .int .i64 (en : Int), .agg #[.bool fo.is, .int .i64 fo.st, .int .i64 fo.code], .int .i64 er]) rfl (by kernel_rfl) (by kernel_rfl) (by kernel_rfl) (fun _ _ _ h => h) (Or.inl ⟨by kernel_rfl, fun w2 hw => by go_simp⟩) hHeld1 ?_
          refine wpAnyH_take (i := 10) (oi := _) (v := .agg #[.int .i64 gf.k, .int .i64 gf.fl, .int .i64 gf.st, .slice p gf.X.length cp, .int .i64 gf.pad, .int .u32 gf.code, .int .i64 gf.last, .int .i64 gf.inc, .int .i64 gf.dep, .bool gf.only, .int .i64 gf.wt, .slice q gf.Y.length cq]) rfl (by kernel_rfl) (by kernel_rfl) (by kernel_rfl) (fun _ _ _ h => h) (Or.inl ⟨by kernel_rfl, fun w2 hw => by go_simp⟩) hHeld1 ?_
          refine wpAnyH_take (i := 11) (oi := _) (v := .int .i64 (en : Int)) rfl (by kernel_rfl) (by kernel_rfl) (by kernel_rfl) (fun _ _ _ h => h) (Or.inl ⟨by kernel_rfl, fun w2 hw => by go_simp⟩) hHeld1 ?_
          refine wpAnyH_take (i := 12) (oi := _) (v := .agg #[.bool fo.is, .int .i64 fo.st, .int .i64 fo.code]) rfl (by kernel_rfl) (by kernel_rfl) (by kernel_rfl) (fun _ _ _ h => h) (Or.inl ⟨by kernel_rfl, fun w2 hw => by go_simp⟩) hHeld1 ?_
          refine wpAnyH_take (i := 13) (oi := _) (v := .int .i64 er) rfl (by kernel_rfl) (by kernel_rfl) (by kernel_rfl) (fun _ _ _ h => h) (Or.inl ⟨by kernel_rfl, fun w2 hw => by go_simp⟩) hHeld1 ?_
          simp only [Act.put, List.getElem_toArray, List.getElem_cons_succ, List.getElem_cons_zero, List.setIfInBounds_toArray, List.set_cons_zero, List.set_cons_succ]
          refine wpAnyH_ready (rs := [14, 15]) (by kernel_rfl) (by simp) ?_
          refine AllReadyH.cons rfl (fun K hK => ?_) (AllReadyH.cons rfl (fun K hK => ?_) AllReadyH.nil)
          · go_simp
            refine hK.out _ _ (HKEEP.out _ (F1.out.alloc _)) (fun hHeld2 => ?_)
            clear hK K
            obtain ⟨w2, hw2⟩ : ∃ w2, w2 = w1.alloc (.cells #[.int .i64 0, .int .i64 0, .int .i64 0, .slice none 0 0, .int .i64 0, .int .u32 0, .int .i64 0, .int .i64 0, .int .i64 0, .bool false, .int .i64 0, .slice none 0 0] 36) := ⟨_, rfl⟩
            obtain ⟨ab4, hab4⟩ : ∃ ab4, ab4 = w1.heap.size := ⟨_, rfl⟩
            have A4_2 : Hid (w2.heap[ab4]? = some (.cells #[.int .i64 0, .int .i64 0, .int .i64 0, .slice none 0 0, .int .i64 0, .int .u32 0, .int .i64 0, .int .i64 0, .int .i64 0, .bool false, .int .i64 0, .slice none 0 0] 36 (0, 0))) := by rw [hw2, hab4]; exact heap_alloc_new _ _
            have F2 : Hid (Fr (fun _ => False) W w2) := by rw [hw2]; exact F1.out.alloc _
            have fa2 : Fr (fun _ => False) w1 w2 := by rw [hw2]; exact (Fr.refl _ _).alloc _
            have Z2 : Hid (ab4 = w1.heap.size ∧ ab4 < w2.heap.size ∧ w1.heap.size ≤ w2.heap.size) := ⟨hab4, lt_of_heap A4_2.out, fa2.size⟩
            have P2 : Hid (SrcAt w2 p gf.X ∧ SetsAt w2 q cq gf.Y ∧ True) := ⟨P1.out.1.oldF fa2, P1.out.2.1.later fa2, trivial⟩
            rw [← hab4, ← hw2]
            rw [← hw2] at hHeld2
            clear hw2 hab4 fa2
            refine wpAnyH_ready (rs := [15]) (by kernel_rfl) (by simp) ?_
            refine AllReadyH.cons rfl (fun K hK => ?_) AllReadyH.nil
            · go_simp
              refine hK.out _ _ (HKEEP.out _ (F2.out.alloc _)) (fun hHeld3 => ?_)
              clear hK K
              obtain ⟨w3, hw3⟩ : ∃ w3, w3 = w2.alloc (.cells #[.bool false, .int .i64 0, .int .i64 0] 38) := ⟨_, rfl⟩
              obtain ⟨ab6, hab6⟩ : ∃ ab6, ab6 = w2.heap.size := ⟨_, rfl⟩
              have A6_3 : Hid (w3.heap[ab6]? = some (.cells #[.bool false, .int .i64 0, .int .i64 0] 38 (0, 0))) := by rw [hw3, hab6]; exact heap_alloc_new _ _
              have F3 : Hid (Fr (fun _ => False) W w3) := by rw [hw3]; exact F2.out.alloc _
              have fa3 : Fr (fun _ => False) w2 w3 := by rw [hw3]; exact (Fr.refl _ _).alloc _
              have Z3 : Hid (ab6 = w2.heap.size ∧ ab6 < w3.heap.size ∧ w2.heap.size ≤ w3.heap.size) := ⟨hab6, lt_of_heap A6_3.out, fa3.size⟩
              have A4_3 : Hid (w3.heap[ab4]? = some (.cells #[.int .i64 0, .int .i64 0, .int .i64 0, .slice none 0 0, .int .i64 0, .int .u32 0, .int .i64 0, .int .i64 0, .int .i64 0, .bool false, .int .i64 0, .slice none 0 0] 36 (0, 0))) := (fa3.block _ (lt_of_heap A4_2.out) id).trans A4_2.out
              have P3 : Hid (SrcAt w3 p gf.X ∧ SetsAt w3 q cq gf.Y ∧ True) := ⟨P2.out.1.oldF fa3, P2.out.2.1.later fa3, trivial⟩
              rw [← hab6, ← hw3]
              rw [← hw3] at hHeld3
              clear hw3 hab6 fa3
              have HB : ab4 ≠ ab6 ∧ W.heap.size ≤ ab4 ∧ W.heap.size ≤ ab6 := by have h0 := F0.out.size; have := Z1.out; have := Z2.out; have := Z3.out; omega
              have HPB : ∀ ad, p = some ad → 0 < gf.X.length → ad.block ≠ ab4 ∧ ad.block ≠ ab6 ∧ W.heap.size ≤ ad.block := fun ad e hl => by have h0 := F0.out.size; have h1 := P1.out.2.2.1 ad e hl; have := Z1.out; have := Z2.out; have := Z3.out; omega
              have HQB : ∀ ad, q = some ad → 0 < gf.Y.length → ad.block ≠ ab4 ∧ ad.block ≠ ab6 ∧ W.heap.size ≤ ad.block := fun ad e hl => by have h0 := F0.out.size; have h1 := P1.out.2.2.2 ad e hl; have := Z1.out; have := Z2.out; have := Z3.out; omega
              have HPS : Hid (SrcAt w3 p gf.X ∧ SetsAt w3 q cq gf.Y) := ⟨P3.out.1, P3.out.2.1⟩
              refine wpAnyH_ready (rs := [16]) (by kernel_rfl) (by simp) ?_
              refine AllReadyH.cons rfl (fun K hK => ?_) AllReadyH.nil
              refine stepR_storeB rfl rfl 36 (.tmp 5) (.tmp 29) rfl ab4 #[.int .i64 0, .int .i64 0, .int .i64 0, .slice none 0 0, .int .i64 0, .int .u32 0, .int .i64 0, .int .i64 0, .int .i64 0, .bool false, .int .i64 0, .slice none 0 0] #[.int .i64 gf.k, .int .i64 gf.fl, .int .i64 gf.st, .slice p gf.X.length cp, .int .i64 gf.pad, .int .u32 gf.code, .int .i64 gf.last, .int .i64 gf.inc, .int .i64 gf.dep, .bool gf.only, .int .i64 gf.wt, .slice q gf.Y.length cq] 36 rfl rfl A4_3.out rfl (by kernel_rfl) (by simp [Value.oneCell']) ?_
              intro y1 H1 G1
              have F1y : Fr (fun k => W.heap.size ≤ k) W y1 := (F3.out.mono (T := fun k => W.heap.size ≤ k) (fun _ _ e => e.elim)).trans (G1.out.mono (fun k _ e => by omega))
              refine hK.out _ _ (HKEEP.out _ (F1y.mono (fun k hk e => by omega))) (fun hHeldy => ?_)
              clear hK K
              refine wpAnyH_ready (rs := [17]) (by kernel_rfl) (by simp) ?_
              refine AllReadyH.cons rfl (fun K hK => ?_) AllReadyH.nil
              go_simp
              refine hK.out _ _ hHeldy (fun _ => ?_)
              clear hK K
              refine wpAnyH_ready (rs := [18]) (by kernel_rfl) (by simp) ?_
              refine AllReadyH.cons rfl (fun K hK => ?_) AllReadyH.nil
              refine stepR_storeB rfl rfl 38 (.tmp 7) (.tmp 31) rfl ab6 #[.bool false, .int .i64 0, .int .i64 0] #[.bool fo.is, .int .i64 fo.st, .int .i64 fo.code] 38 rfl rfl ((G1.out.block _ (lt_of_heap A6_3.out) (by omega)).trans A6_3.out) rfl (by kernel_rfl) (by simp [Value.oneCell']) ?_
              intro y2 H2 G2
              have F2y : Fr (fun k => W.heap.size ≤ k) W y2 := F1y.trans (G2.out.mono (fun k _ e => by omega))
              have GG : Fr (fun k => k = ab4 ∨ k = ab6) w3 y2 := (G1.out.mono (fun _ _ e => .inl e)).trans (G2.out.mono (fun _ _ e => .inr e))
              have TT : Hid (NkF w W g most (.slice a n c) B X ob gf fo p cp q cq ab4 ab6 y2) := ⟨HSW.out.later (F2y.mono (fun k hk e => by omega)), (G2.out.block _ (lt_of_heap H1.out) (by omega)).trans H1.out, H2.out, HPS.out.1.fr GG (fun ad e hl e2 => by have := HPB ad e hl; omega), HPS.out.2.fr GG (fun ad e hl e2 => by have := HQB ad e hl; omega), fun ad e hl => (HPB ad e hl).2.2, fun ad e hl => (HQB ad e hl).2.2, HB.2.1, HB.2.2, HB.1, F2y.mono (fun k hk e => by omega)⟩
              refine hK.out _ _ TT.out.st.rd (fun _ => ?_)
              clear hK K
              refine wpAnyH_ready (rs := [19]) (by kernel_rfl) (by simp) ?_
              refine AllReadyH.cons rfl (fun K hK => ?_) AllReadyH.nil
              go_simp
              refine hK.out _ _ TT.out.st.rd (fun _ => ?_)
              clear hK K
              refine wpAnyH_done (by kernel_rfl) ?_ _
              go_wp2_with (fail)
              go_meet
              case rel => exact ⟨ab4, ab6, p, cp, q, cq, rfl, rfl, rfl, rfl, TT.out⟩
          · go_simp
            refine hK.out _ _ (HKEEP.out _ (F1.out.alloc _)) (fun hHeld4 => ?_)
            clear hK K
            obtain ⟨w4, hw4⟩ : ∃ w4, w4 = w1.alloc (.cells #[.bool false, .int .i64 0, .int .i64 0] 38) := ⟨_, rfl⟩
            obtain ⟨ab6, hab6⟩ : ∃ ab6, ab6 = w1.heap.size := ⟨_, rfl⟩
            have A6_4 : Hid (w4.heap[ab6]? = some (.cells #[.bool false, .int .i64 0, .int .i64 0] 38 (0, 0))) := by rw [hw4, hab6]; exact heap_alloc_new _ _
            have F4 : Hid (Fr (fun _ => False) W w4) := by rw [hw4]; exact F1.out.alloc _
            have fa4 : Fr (fun _ => False) w1 w4 := by rw [hw4]; exact (Fr.refl _ _).alloc _
            have Z4 : Hid (ab6 = w1.heap.size ∧ ab6 < w4.heap.size ∧ w1.heap.size ≤ w4.heap.size) := ⟨hab6, lt_of_heap A6_4.out, fa4.size⟩
            have P4 : Hid (SrcAt w4 p gf.X ∧ SetsAt w4 q cq gf.Y ∧ True) := ⟨P1.out.1.oldF fa4, P1.out.2.1.later fa4, trivial⟩
            rw [← hab6, ← hw4]
            rw [← hw4] at hHeld4
            clear hw4 hab6 fa4
            refine wpAnyH_ready (rs := [14]) (by kernel_rfl) (by simp) ?_
            refine AllReadyH.cons rfl (fun K hK => ?_) AllReadyH.nil
            · go_simp
              refine hK.out _ _ (HKEEP.out _ (F4.out.alloc _)) (fun hHeld5 => ?_)
              clear hK K
              obtain ⟨w5, hw5⟩ : ∃ w5, w5 = w4.alloc (.cells #[.int .i64 0, .int .i64 0, .int .i64 0, .slice none 0 0, .int .i64 0, .int .u32 0, .int .i64 0, .int .i64 0, .int .i64 0, .bool false, .int .i64 0, .slice none 0 0] 36) := ⟨_, rfl⟩
              obtain ⟨ab4, hab4⟩ : ∃ ab4, ab4 = w4.heap.size := ⟨_, rfl⟩
              have A4_5 : Hid (w5.heap[ab4]? = some (.cells #[.int .i64 0, .int .i64 0, .int .i64 0, .slice none 0 0, .int .i64 0, .int .u32 0, .int .i64 0, .int .i64 0, .int .i64 0, .bool false, .int .i64 0, .slice none 0 0] 36 (0, 0))) := by rw [hw5, hab4]; exact heap_alloc_new _ _
              have F5 : Hid (Fr (fun _ => False) W w5) := by rw [hw5]; exact F4.out.alloc _
              have fa5 : Fr (fun _ => False) w4 w5 := by rw [hw5]; exact (Fr.refl _ _).alloc _
              have Z5 : Hid (ab4 = w4.heap.size ∧ ab4 < w5.heap.size ∧ w4.heap.size ≤ w5.heap.size) := ⟨hab4, lt_of_heap A4_5.out, fa5.size⟩
              have A6_5 : Hid (w5.heap[ab6]? = some (.cells #[.bool false, .int .i64 0, .int .i64 0] 38 (0, 0))) := (fa5.block _ (lt_of_heap A6_4.out) id).trans A6_4.out
              have P5 : Hid (SrcAt w5 p gf.X ∧ SetsAt w5 q cq gf.Y ∧ True) := ⟨P4.out.1.oldF fa5, P4.out.2.1.later fa5, trivial⟩
              rw [← hab4, ← hw5]
              rw [← hw5] at hHeld5
              clear hw5 hab4 fa5
              have HB : ab4 ≠ ab6 ∧ W.heap.size ≤ ab4 ∧ W.heap.size ≤ ab6 := by have h0 := F0.out.size; have := Z1.out; have := Z4.out; have := Z5.out; omega
              have HPB : ∀ ad, p = some ad → 0 < gf.X.length → ad.block ≠ ab4 ∧ ad.block ≠ ab6 ∧ W.heap.size ≤ ad.block := fun ad e hl => by have h0 := F0.out.size; have h1 := P1.out.2.2.1 ad e hl; have := Z1.out; have := Z4.out; have := Z5.out; omega
              have HQB : ∀ ad, q = some ad → 0 < gf.Y.length → ad.block ≠ ab4 ∧ ad.block ≠ ab6 ∧ W.heap.size ≤ ad.block := fun ad e hl => by have h0 := F0.out.size; have h1 := P1.out.2.2.2 ad e hl; have := Z1.out; have := Z4.out; have := Z5.out; omega
              have HPS : Hid (SrcAt w5 p gf.X ∧ SetsAt w5 q cq gf.Y) := ⟨P5.out.1, P5.out.2.1⟩
              refine wpAnyH_ready (rs := [16]) (by kernel_rfl) (by simp) ?_
              refine AllReadyH.cons rfl (fun K hK => ?_) AllReadyH.nil
              refine stepR_storeB rfl rfl 36 (.tmp 5) (.tmp 29) rfl ab4 #[.int .i64 0, .int .i64 0, .int .i64 0, .slice none 0 0, .int .i64 0, .int .u32 0, .int .i64 0, .int .i64 0, .int .i64 0, .bool false, .int .i64 0, .slice none 0 0] #[.int .i64 gf.k, .int .i64 gf.fl, .int .i64 gf.st, .slice p gf.X.length cp, .int .i64 gf.pad, .int .u32 gf.code, .int .i64 gf.last, .int .i64 gf.inc, .int .i64 gf.dep, .bool gf.only, .int .i64 gf.wt, .slice q gf.Y.length cq] 36 rfl rfl A4_5.out rfl (by kernel_rfl) (by simp [Value.oneCell']) ?_
              intro y1 H1 G1
              have F1y : Fr (fun k => W.heap.size ≤ k) W y1 := (F5.out.mono (T := fun k => W.heap.size ≤ k) (fun _ _ e => e.elim)).trans (G1.out.mono (fun k _ e => by omega))
              refine hK.out _ _ (HKEEP.out _ (F1y.mono (fun k hk e => by omega))) (fun hHeldy => ?_)
              clear hK K
              refine wpAnyH_ready (rs := [17]) (by kernel_rfl) (by simp) ?_
              refine AllReadyH.cons rfl (fun K hK => ?_) AllReadyH.nil
              go_simp
              refine hK.out _ _ hHeldy (fun _ => ?_)
              clear hK K
              refine wpAnyH_ready (rs := [18]) (by kernel_rfl) (by simp) ?_
              refine AllReadyH.cons rfl (fun K hK => ?_) AllReadyH.nil
              refine stepR_storeB rfl rfl 38 (.tmp 7) (.tmp 31) rfl ab6 #[.bool false, .int .i64 0, .int .i64 0] #[.bool fo.is, .int .i64 fo.st, .int .i64 fo.code] 38 rfl rfl ((G1.out.block _ (lt_of_heap A6_5.out) (by omega)).trans A6_5.out) rfl (by kernel_rfl) (by simp [Value.oneCell']) ?_
              intro y2 H2 G2
              have F2y : Fr (fun k => W.heap.size ≤ k) W y2 := F1y.trans (G2.out.mono (fun k _ e => by omega))
              have GG : Fr (fun k => k = ab4 ∨ k = ab6) w5 y2 := (G1.out.mono (fun _ _ e => .inl e)).trans (G2.out.mono (fun _ _ e => .inr e))
              have TT : Hid (NkF w W g most (.slice a n c) B X ob gf fo p cp q cq ab4 ab6 y2) := ⟨HSW.out.later (F2y.mono (fun k hk e => by omega)), (G2.out.block _ (lt_of_heap H1.out) (by omega)).trans H1.out, H2.out, HPS.out.1.fr GG (fun ad e hl e2 => by have := HPB ad e hl; omega), HPS.out.2.fr GG (fun ad e hl e2 => by have := HQB ad e hl; omega), fun ad e hl => (HPB ad e hl).2.2, fun ad e hl => (HQB ad e hl).2.2, HB.2.1, HB.2.2, HB.1, F2y.mono (fun k hk e => by omega)⟩
              refine hK.out _ _ TT.out.st.rd (fun _ => ?_)
              clear hK K
              refine wpAnyH_ready (rs := [19]) (by kernel_rfl) (by simp) ?_
              refine AllReadyH.cons rfl (fun K hK => ?_) AllReadyH.nil
              go_simp
              refine hK.out _ _ TT.out.st.rd (fun _ => ?_)
              clear hK K
              refine wpAnyH_done (by kernel_rfl) ?_ _
              go_wp2_with (fail)
              go_meet
              case rel => exact ⟨ab4, ab6, p, cp, q, cq, rfl, rfl, rfl, rfl, TT.out⟩
        · go_simp
          refine hK.out _ _ (HKEEP.out _ (F0.out.alloc _)) (fun hHeld6 => ?_)
          clear hK K
          obtain ⟨w6, hw6⟩ : ∃ w6, w6 = w0.alloc (.cells #[.int .i64 0, .int .i64 0, .int .i64 0, .slice none 0 0, .int .i64 0, .int .u32 0, .int .i64 0, .int .i64 0, .int .i64 0, .bool false, .int .i64 0, .slice none 0 0] 36) := ⟨_, rfl⟩
          obtain ⟨ab4, hab4⟩ : ∃ ab4, ab4 = w0.heap.size := ⟨_, rfl⟩
          have A4_6 : Hid (w6.heap[ab4]? = some (.cells #[.int .i64 0, .int .i64 0, .int .i64 0, .slice none 0 0, .int .i64 0, .int .u32 0, .int .i64 0, .int .i64 0, .int .i64 0, .bool false, .int .i64 0, .slice none 0 0] 36 (0, 0))) := by rw [hw6, hab4]; exact heap_alloc_new _ _
          have F6 : Hid (Fr (fun _ => False) W w6) := by rw [hw6]; exact F0.out.alloc _
          have fa6 : Fr (fun _ => False) w0 w6 := by rw [hw6]; exact (Fr.refl _ _).alloc _
          have Z6 : Hid (ab4 = w0.heap.size ∧ ab4 < w6.heap.size ∧ w0.heap.size ≤ w6.heap.size) := ⟨hab4, lt_of_heap A4_6.out, fa6.size⟩
          rw [← hab4, ← hw6]
          rw [← hw6] at hHeld6
          clear hw6 hab4 fa6
          refine wpAnyH_ready (rs := [8, 15]) (by kernel_rfl) (by simp) ?_
          refine AllReadyH.cons rfl (fun K hK => ?_) (AllReadyH.cons rfl (fun K hK => ?_) AllReadyH.nil)
          · go_simp
            refine (KP.out _ F6.out).mono ?_
            rintro e w7 ⟨p, cp, q, cq, rfl, hX7, hY7, hf7, hp7, hq7⟩
            have F7 : Hid (Fr (fun _ => False) W w7) := F6.out.trans hf7
            have P7 : Hid (SrcAt w7 p gf.X ∧ SetsAt w7 q cq gf.Y ∧ (∀ ad, p = some ad → 0 < gf.X.length → w6.heap.size ≤ ad.block ∧ ad.block < w7.heap.size) ∧ (∀ ad, q = some ad → 0 < gf.Y.length → w6.heap.size ≤ ad.block ∧ ad.block < w7.heap.size)) := ⟨hX7, hY7, fun ad e hl => ⟨hp7 ad e hl, srcB_lt hX7 ad e hl⟩, fun ad e hl => ⟨hq7 ad e hl, sets_lt hY7 ad e hl⟩⟩
            have Z7 : Hid (w6.heap.size ≤ w7.heap.size) := hf7.size
            have A4_7 : Hid (w7.heap[ab4]? = some (.cells #[.int .i64 0, .int .i64 0, .int .i64 0, .slice none 0 0, .int .i64 0, .int .u32 0, .int .i64 0, .int .i64 0, .int .i64 0, .bool false, .int .i64 0, .slice none 0 0] 36 (0, 0))) := (hf7.block _ (lt_of_heap A4_6.out) id).trans A4_6.out
            refine hK.out _ _ (HKEEP.out _ F7.out) (fun hHeld7 => ?_)
            clear hK K hX7 hY7 hf7 hp7 hq7
            refine wpAnyH_take (i := 9) (oi := _) (v := .tuple #[.agg #[.int .i64 gf.k, .int .i64 gf.fl, .int .i64 gf.st, .slice p gf.X.length cp, .int .i64 gf.pad, .int .u32 gf.code, .int .i64 gf.last, .int .i64 gf.inc, .int .i64 gf.dep, .bool gf.only, .int .i64 gf.wt, .slice q gf.Y.length cq], .int .i64 (en : Int), .agg #[.bool fo.is, .int .i64 fo.st, .int .i64 fo.code], .int .i64 er]) rfl (by kernel_rfl) (by kernel_rfl) (by kernel_rfl) (fun _ _ _ h => h) (Or.inl ⟨by kernel_rfl, fun w2 hw => by go_simp⟩) hHeld7 ?_
            refine wpAnyH_take (i := 10) (oi := _) (v := .agg #[.int .i64 gf.k, .int .i64 gf.fl, .int .i64 gf.st, .slice p gf.X.length cp, .int .i64 gf.pad, .int .u32 gf.code, .int .i64 gf.last, .int .i64 gf.inc, .int .i64 gf.dep, .bool gf.only, .int .i64 gf.wt, .slice q gf.Y.length cq]) rfl (by kernel_rfl) (by kernel_rfl) (by kernel_rfl) (fun _ _ _ h => h) (Or.inl ⟨by kernel_rfl, fun w2 hw => by go_simp⟩) hHeld7 ?_
            refine wpAnyH_take (i := 11) (oi := _) (v := .int .i64 (en : Int)) rfl (by kernel_rfl) (by kernel_rfl) (by kernel_rfl) (fun _ _ _ h => h) (Or.inl ⟨by kernel_rfl, fun w2 hw => by go_simp⟩) hHeld7 ?_
            refine wpAnyH_take (i := 12) (oi := _) (v := .agg #[.bool fo.is, .int .i64 fo.st, .int .i64 fo.code]) rfl (by kernel_rfl) (by kernel_rfl) (by kernel_rfl) (fun _ _ _ h => h) (Or.inl ⟨by kernel_rfl, fun w2 hw => by go_simp⟩) hHeld7 ?_
            refine wpAnyH_take (i := 13) (oi := _) (v := .int .i64 er) rfl (by kernel_rfl) (by kernel_rfl) (by kernel_rfl) (fun _ _ _ h => h) (Or.inl ⟨by kernel_rfl, fun w2 hw => by go_simp⟩) hHeld7 ?_
            simp only [Act.put, List.getElem_toArray, List.getElem_cons_succ, List.getElem_cons_zero, List.setIfInBounds_toArray, List.set_cons_zero, List.set_cons_succ]
            refine wpAnyH_ready (rs := [15]) (by kernel_rfl) (by simp) ?_
            refine AllReadyH.cons rfl (fun K hK => ?_) AllReadyH.nil
            · go_simp
              refine hK.out _ _ (HKEEP.out _ (F7.out.alloc _)) (fun hHeld8 => ?_)
              clear hK K
              obtain ⟨w8, hw8⟩ : ∃ w8, w8 = w7.alloc (.cells #[.bool false, .int .i64 0, .int .i64 0] 38) := ⟨_, rfl⟩
              obtain ⟨ab6, hab6⟩ : ∃ ab6, ab6 = w7.heap.size := ⟨_, rfl⟩
              have A6_8 : Hid (w8.heap[ab6]? = some (.cells #[.bool false, .int .i64 0, .int .i64 0] 38 (0, 0))) := by rw [hw8, hab6]; exact heap_alloc_new _ _
              have F8 : Hid (Fr (fun _ => False) W w8) := by rw [hw8]; exact F7.out.alloc _
              have fa8 : Fr (fun _ => False) w7 w8 := by rw [hw8]; exact (Fr.refl _ _).alloc _
              have Z8 : Hid (ab6 = w7.heap.size ∧ ab6 < w8.heap.size ∧ w7.heap.size ≤ w8.heap.size) := ⟨hab6, lt_of_heap A6_8.out, fa8.size⟩
              have A4_8 : Hid (w8.heap[ab4]? = some (.cells #[.int .i64 0, .int .i64 0, .int .i64 0, .slice none 0 0, .int .i64 0, .int .u32 0, .int .i64 0, .int .i64 0, .int .i64 0, .bool false, .int .i64 0, .slice none 0 0] 36 (0, 0))) := (fa8.block _ (lt_of_heap A4_7.out) id).trans A4_7.out
              have P8 : Hid (SrcAt w8 p gf.X ∧ SetsAt w8 q cq gf.Y ∧ True) := ⟨P7.out.1.oldF fa8, P7.out.2.1.later fa8, trivial⟩
              rw [← hab6, ← hw8]
              rw [← hw8] at hHeld8
              clear hw8 hab6 fa8
              have HB : ab4 ≠ ab6 ∧ W.heap.size ≤ ab4 ∧ W.heap.size ≤ ab6 := by have h0 := F0.out.size; have := Z6.out; have := Z7.out; have := Z8.out; omega
              have HPB : ∀ ad, p = some ad → 0 < gf.X.length → ad.block ≠ ab4 ∧ ad.block ≠ ab6 ∧ W.heap.size ≤ ad.block := fun ad e hl => by have h0 := F0.out.size; have h1 := P7.out.2.2.1 ad e hl; have := Z6.out; have := Z7.out; have := Z8.out; omega
              have HQB : ∀ ad, q = some ad → 0 < gf.Y.length → ad.block ≠ ab4 ∧ ad.block ≠ ab6 ∧ W.heap.size ≤ ad.block := fun ad e hl => by have h0 := F0.out.size; have h1 := P7.out.2.2.2 ad e hl; have := Z6.out; have := Z7.out; have := Z8.out; omega
              have HPS : Hid (SrcAt w8 p gf.X ∧ SetsAt w8 q cq gf.Y) := ⟨P8.out.1, P8.out.2.1⟩
              refine wpAnyH_ready (rs := [16]) (by kernel_rfl) (by simp) ?_
              refine AllReadyH.cons rfl (fun K hK => ?_) AllReadyH.nil
              refine stepR_storeB rfl rfl 36 (.tmp 5) (.tmp 29) rfl ab4 #[.int .i64 0, .int .i64 0, .int .i64 0, .slice none 0 0, .int .i64 0, .int .u32 0, .int .i64 0, .int .i64 0, .int .i64 0, .bool false, .int .i64 0, .slice none 0 0] #[.int .i64 gf.k, .int .i64 gf.fl, .int .i64 gf.st, .slice p gf.X.length cp, .int .i64 gf.pad, .int .u32 gf.code, .int .i64 gf.last, .int .i64 gf.inc, .int .i64 gf.dep, .bool gf.only, .int .i64 gf.wt, .slice q gf.Y.length cq] 36 rfl rfl A4_8.out rfl (by kernel_rfl) (by simp [Value.oneCell']) ?_
              intro y1 H1 G1
              have F1y : Fr (fun k => W.heap.size ≤ k) W y1 := (F8.out.mono (T := fun k => W.heap.size ≤ k) (fun _ _ e => e.elim)).trans (G1.out.mono (fun k _ e => by omega))
              refine hK.out _ _ (HKEEP.out _ (F1y.mono (fun k hk e => by omega))) (fun hHeldy => ?_)
              clear hK K
              refine wpAnyH_ready (rs := [17]) (by kernel_rfl) (by simp) ?_
              refine AllReadyH.cons rfl (fun K hK => ?_) AllReadyH.nil
              go_simp
              refine hK.out _ _ hHeldy (fun _ => ?_)
              clear hK K
              refine wpAnyH_ready (rs := [18]) (by kernel_rfl) (by simp) ?_
              refine AllReadyH.cons rfl (fun K hK => ?_) AllReadyH.nil
              refine stepR_storeB rfl rfl 38 (.tmp 7) (.tmp 31) rfl ab6 #[.bool false, .int .i64 0, .int .i64 0] #[.bool fo.is, .int .i64 fo.st, .int .i64 fo.code] 38 rfl rfl ((G1.out.block _ (lt_of_heap A6_8.out) (by omega)).trans A6_8.out) rfl (by kernel_rfl) (by simp [Value.oneCell']) ?_
              intro y2 H2 G2
              have F2y : Fr (fun k => W.heap.size ≤ k) W y2 := F1y.trans (G2.out.mono (fun k _ e => by omega))
              have GG : Fr (fun k => k = ab4 ∨ k = ab6) w8 y2 := (G1.out.mono (fun _ _ e => .inl e)).trans (G2.out.mono (fun _ _ e => .inr e))
              have TT : Hid (NkF w W g most (.slice a n c) B X ob gf fo p cp q cq ab4 ab6 y2) := ⟨HSW.out.later (F2y.mono (fun k hk e => by omega)), (G2.out.block _ (lt_of_heap H1.out) (by omega)).trans H1.out, H2.out, HPS.out.1.fr GG (fun ad e hl e2 => by have := HPB ad e hl; omega), HPS.out.2.fr GG (fun ad e hl e2 => by have := HQB ad e hl; omega), fun ad e hl => (HPB ad e hl).2.2, fun ad e hl => (HQB ad e hl).2.2, HB.2.1, HB.2.2, HB.1, F2y.mono (fun k hk e => by omega)⟩
              refine hK.out _ _ TT.out.st.rd (fun _ => ?_)
              clear hK K
              refine wpAnyH_ready (rs := [19]) (by kernel_rfl) (by simp) ?_
              refine AllReadyH.cons rfl (fun K hK => ?_) AllReadyH.nil
              go_simp
              refine hK.out _ _ TT.out.st.rd (fun _ => ?_)
              clear hK K
              refine wpAnyH_done (by kernel_rfl) ?_ _
              go_wp2_with (fail)
              go_meet
              case rel => exact ⟨ab4, ab6, p, cp, q, cq, rfl, rfl, rfl, rfl, TT.out⟩
          · go_simp
            refine hK.out _ _ (HKEEP.out _ (F6.out.alloc _)) (fun hHeld9 => ?_)
            clear hK K
            obtain ⟨w9, hw9⟩ : ∃ w9, w9 = w6.alloc (.cells #[.bool false, .int .i64 0, .int .i64 0] 38) := ⟨_, rfl⟩
            obtain ⟨ab6, hab6⟩ : ∃ ab6, ab6 = w6.heap.size := ⟨_, rfl⟩
            have A6_9 : Hid (w9.heap[ab6]? = some (.cells #[.bool false, .int .i64 0, .int .i64 0] 38 (0, 0))) := by rw [hw9, hab6]; exact heap_alloc_new _ _
            have F9 : Hid (Fr (fun _ => False) W w9) := by rw [hw9]; exact F6.out.alloc _
            have fa9 : Fr (fun _ => False) w6 w9 := by rw [hw9]; exact (Fr.refl _ _).alloc _
            have Z9 : Hid (ab6 = w6.heap.size ∧ ab6 < w9.heap.size ∧ w6.heap.size ≤ w9.heap.size) := ⟨hab6, lt_of_heap A6_9.out, fa9.size⟩
            have A4_9 : Hid (w9.heap[ab4]? = some (.cells #[.int .i64 0, .int .i64 0, .int .i64 0, .slice none 0 0, .int .i64 0, .int .u32 0, .int .i64 0, .int .i64 0, .int .i64 0, .bool false, .int .i64 0, .slice none 0 0] 36 (0, 0))) := (fa9.block _ (lt_of_heap A4_6.out) id).trans A4_6.out
            rw [← hab6, ← hw9]
            rw [← hw9] at hHeld9
            clear hw9 hab6 fa9
            refine wpAnyH_ready (rs := [8]) (by kernel_rfl) (by simp) ?_
            refine AllReadyH.cons rfl (fun K hK => ?_) AllReadyH.nil
            · go_simp
              refine (KP.out _ F9.out).mono ?_
              rintro e w10 ⟨p, cp, q, cq, rfl, hX10, hY10, hf10, hp10, hq10⟩
              have F10 : Hid (Fr (fun _ => False) W w10) := F9.out.trans hf10
              have P10 : Hid (SrcAt w10 p gf.X ∧ SetsAt w10 q cq gf.Y ∧ (∀ ad, p = some ad → 0 < gf.X.length → w9.heap.size ≤ ad.block ∧ ad.block < w10.heap.size) ∧ (∀ ad, q = some ad → 0 < gf.Y.length → w9.heap.size ≤ ad.block ∧ ad.block < w10.heap.size)) := ⟨hX10, hY10, fun ad e hl => ⟨hp10 ad e hl, srcB_lt hX10 ad e hl⟩, fun ad e hl => ⟨hq10 ad e hl, sets_lt hY10 ad e hl⟩⟩
              have Z10 : Hid (w9.heap.size ≤ w10.heap.size) := hf10.size
              have A4_10 : Hid (w10.heap[ab4]? = some (.cells #[.int .i64 0, .int .i64 0, .int .i64 0, .slice none 0 0, .int .i64 0, .int .u32 0, .int .i64 0, .int .i64 0, .int .i64 0, .bool false, .int .i64 0, .slice none 0 0] 36 (0, 0))) := (hf10.block _ (lt_of_heap A4_9.out) id).trans A4_9.out
              have A6_10 : Hid (w10.heap[ab6]? = some (.cells #[.bool false, .int .i64 0, .int .i64 0] 38 (0, 0))) := (hf10.block _ (lt_of_heap A6_9.out) id).trans A6_9.out
              refine hK.out _ _ (HKEEP.out _ F10.out) (fun hHeld10 => ?_)
              clear hK K hX10 hY10 hf10 hp10 hq10
              refine wpAnyH_take (i := 9) (oi := _) (v := .tuple #[.agg #[.int .i64 gf.k, .int .i64 gf.fl, .int .i64 gf.st, .slice p gf.X.length cp, .int .i64 gf.pad, .int .u32 gf.code, .int .i64 gf.last, .int .i64 gf.inc, .int .i64 gf.dep, .bool gf.only, .int .i64 gf.wt, .slice q gf.Y.length cq], .int .i64 (en : Int), .agg #[.bool fo.is, .int .i64 fo.st, .int .i64 fo.code], .int .i64 er]) rfl (by kernel_rfl) (by kernel_rfl) (by kernel_rfl) (fun _ _ _ h => h) (Or.inl ⟨by kernel_rfl, fun w2 hw => by go_simp⟩) hHeld10 ?_
              refine wpAnyH_take (i := 10) (oi := _) (v := .agg #[.int .i64 gf.k, .int .i64 gf.fl, .int .i64 gf.st, .slice p gf.X.length cp, .int .i64 gf.pad, .int .u32 gf.code, .int .i64 gf.last, .int .i64 gf.inc, .int .i64 gf.dep, .bool gf.only, .int .i64 gf.wt, .slice q gf.Y.length cq]) rfl (by kernel_rfl) (by kernel_rfl) (by kernel_rfl) (fun _ _ _ h => h) (Or.inl ⟨by kernel_rfl, fun w2 hw => by go_simp⟩) hHeld10 ?_
              refine wpAnyH_take (i := 11) (oi := _) (v := .int .i64 (en : Int)) rfl (by kernel_rfl) (by kernel_rfl) (by kernel_rfl) (fun _ _ _ h => h) (Or.inl ⟨by kernel_rfl, fun w2 hw => by go_simp⟩) hHeld10 ?_
              refine wpAnyH_take (i := 12) (oi := _) (v := .agg #[.bool fo.is, .int .i64 fo.st, .int .i64 fo.code]) rfl (by kernel_rfl) (by kernel_rfl) (by kernel_rfl) (fun _ _ _ h => h) (Or.inl ⟨by kernel_rfl, fun w2 hw => by go_simp⟩) hHeld10 ?_
              refine wpAnyH_take (i := 13) (oi := _) (v := .int .i64 er) rfl (by kernel_rfl) (by kernel_rfl) (by kernel_rfl) (fun _ _ _ h => h) (Or.inl ⟨by kernel_rfl, fun w2 hw => by go_simp⟩) hHeld10 ?_
              simp only [Act.put, List.getElem_toArray, List.getElem_cons_succ, List.getElem_cons_zero, List.setIfInBounds_toArray, List.set_cons_zero, List.set_cons_succ]
              have HB : ab4 ≠ ab6 ∧ W.heap.size ≤ ab4 ∧ W.heap.size ≤ ab6 := by have h0 := F0.out.size; have := Z6.out; have := Z9.out; have := Z10.out; omega
              have HPB : ∀ ad, p = some ad → 0 < gf.X.length → ad.block ≠ ab4 ∧ ad.block ≠ ab6 ∧ W.heap.size ≤ ad.block := fun ad e hl => by have h0 := F0.out.size; have h1 := P10.out.2.2.1 ad e hl; have := Z6.out; have := Z9.out; have := Z10.out; omega
              have HQB : ∀ ad, q = some ad → 0 < gf.Y.length → ad.block ≠ ab4 ∧ ad.block ≠ ab6 ∧ W.heap.size ≤ ad.block := fun ad e hl => by have h0 := F0.out.size; have h1 := P10.out.2.2.2 ad e hl; have := Z6.out; have := Z9.out; have := Z10.out; omega
              have HPS : Hid (SrcAt w10 p gf.X ∧ SetsAt w10 q cq gf.Y) := ⟨P10.out.1, P10.out.2.1⟩
              refine wpAnyH_ready (rs := [16]) (by kernel_rfl) (by simp) ?_
              refine AllReadyH.cons rfl (fun K hK => ?_) AllReadyH.nil
              refine stepR_storeB rfl rfl 36 (.tmp 5) (.tmp 29) rfl ab4 #[.int .i64 0, .int .i64 0, .int .i64 0, .slice none 0 0, .int .i64 0, .int .u32 0, .int .i64 0, .int .i64 0, .int .i64 0, .bool false, .int .i64 0, .slice none 0 0] #[.int .i64 gf.k, .int .i64 gf.fl, .int .i64 gf.st, .slice p gf.X.length cp, .int .i64 gf.pad, .int .u32 gf.code, .int .i64 gf.last, .int .i64 gf.inc, .int .i64 gf.dep, .bool gf.only, .int .i64 gf.wt, .slice q gf.Y.length cq] 36 rfl rfl A4_10.out rfl (by kernel_rfl) (by simp [Value.oneCell']) ?_
              intro y1 H1 G1
              have F1y : Fr (fun k => W.heap.size ≤ k) W y1 := (F10.out.mono (T := fun k => W.heap.size ≤ k) (fun _ _ e => e.elim)).trans (G1.out.mono (fun k _ e => by omega))
              refine hK.out _ _ (HKEEP.out _ (F1y.mono (fun k hk e => by omega))) (fun hHeldy => ?_)
              clear hK K
              refine wpAnyH_ready (rs := [17]) (by kernel_rfl) (by simp) ?_
              refine AllReadyH.cons rfl (fun K hK => ?_) AllReadyH.nil
              go_simp
              refine hK.out _ _ hHeldy (fun _ => ?_)
              clear hK K
              refine wpAnyH_ready (rs := [18]) (by kernel_rfl) (by simp) ?_
              refine AllReadyH.cons rfl (fun K hK => ?_) AllReadyH.nil
              refine stepR_storeB rfl rfl 38 (.tmp 7) (.tmp 31) rfl ab6 #[.bool false, .int .i64 0, .int .i64 0] #[.bool fo.is, .int .i64 fo.st, .int .i64 fo.code] 38 rfl rfl ((G1.out.block _ (lt_of_heap A6_10.out) (by omega)).trans A6_10.out) rfl (by kernel_rfl) (by simp [Value.oneCell']) ?_
              intro y2 H2 G2
              have F2y : Fr (fun k => W.heap.size ≤ k) W y2 := F1y.trans (G2.out.mono (fun k _ e => by omega))
              have GG : Fr (fun k => k = ab4 ∨ k = ab6) w10 y2 := (G1.out.mono (fun _ _ e => .inl e)).trans (G2.out.mono (fun _ _ e => .inr e))
              have TT : Hid (NkF w W g most (.slice a n c) B X ob gf fo p cp q cq ab4 ab6 y2) := ⟨HSW.out.later (F2y.mono (fun k hk e => by omega)), (G2.out.block _ (lt_of_heap H1.out) (by omega)).trans H1.out, H2.out, HPS.out.1.fr GG (fun ad e hl e2 => by have := HPB ad e hl; omega), HPS.out.2.fr GG (fun ad e hl e2 => by have := HQB ad e hl; omega), fun ad e hl => (HPB ad e hl).2.2, fun ad e hl => (HQB ad e hl).2.2, HB.2.1, HB.2.2, HB.1, F2y.mono (fun k hk e => by omega)⟩
              refine hK.out _ _ TT.out.st.rd (fun _ => ?_)
              clear hK K
              refine wpAnyH_ready (rs := [19]) (by kernel_rfl) (by simp) ?_
              refine AllReadyH.cons rfl (fun K hK => ?_) AllReadyH.nil
              go_simp
              refine hK.out _ _ TT.out.st.rd (fun _ => ?_)
              clear hK K
              refine wpAnyH_done (by kernel_rfl) ?_ _
              go_wp2_with (fail)
              go_meet
              case rel => exact ⟨ab4, ab6, p, cp, q, cq, rfl, rfl, rfl, rfl, TT.out⟩
        · go_simp
          refine hK.out _ _ (HKEEP.out _ (F0.out.alloc _)) (fun hHeld11 => ?_)
          clear hK K
          obtain ⟨w11, hw11⟩ : ∃ w11, w11 = w0.alloc (.cells #[.bool false, .int .i64 0, .int .i64 0] 38) := ⟨_, rfl⟩
          obtain ⟨ab6, hab6⟩ : ∃ ab6, ab6 = w0.heap.size := ⟨_, rfl⟩
          have A6_11 : Hid (w11.heap[ab6]? = some (.cells #[.bool false, .int .i64 0, .int .i64 0] 38 (0, 0))) := by rw [hw11, hab6]; exact heap_alloc_new _ _
          have F11 : Hid (Fr (fun _ => False) W w11) := by rw [hw11]; exact F0.out.alloc _
          have fa11 : Fr (fun _ => False) w0 w11 := by rw [hw11]; exact (Fr.refl _ _).alloc _
          have Z11 : Hid (ab6 = w0.heap.size ∧ ab6 < w11.heap.size ∧ w0.heap.size ≤ w11.heap.size) := ⟨hab6, lt_of_heap A6_11.out, fa11.size⟩
          rw [← hab6, ← hw11]
          rw [← hw11] at hHeld11
          clear hw11 hab6 fa11
          refine wpAnyH_ready (rs := [8, 14]) (by kernel_rfl) (by simp) ?_
          refine AllReadyH.cons rfl (fun K hK => ?_) (AllReadyH.cons rfl (fun K hK => ?_) AllReadyH.nil)
          · go_simp
            refine (KP.out _ F11.out).mono ?_
            rintro e w12 ⟨p, cp, q, cq, rfl, hX12, hY12, hf12, hp12, hq12⟩
            have F12 : Hid (Fr (fun _ => False) W w12) := F11.out.trans hf12
            have P12 : Hid (SrcAt w12 p gf.X ∧ SetsAt w12 q cq gf.Y ∧ (∀ ad, p = some ad → 0 < gf.X.length → w11.heap.size ≤ ad.block ∧ ad.block < w12.heap.size) ∧ (∀ ad, q = some ad → 0 < gf.Y.length → w11.heap.size ≤ ad.block ∧ ad.block < w12.heap.size)) := ⟨hX12, hY12, fun ad e hl => ⟨hp12 ad e hl, srcB_lt hX12 ad e hl⟩, fun ad e hl => ⟨hq12 ad e hl, sets_lt hY12 ad e hl⟩⟩
            have Z12 : Hid (w11.heap.size ≤ w12.heap.size) := hf12.size
            have A6_12 : Hid (w12.heap[ab6]? = some (.cells #[.bool false, .int .i64 0, .int .i64 0] 38 (0, 0))) := (hf12.block _ (lt_of_heap A6_11.out) id).trans A6_11.out
            refine hK.out _ _ (HKEEP.out _ F12.out) (fun hHeld12 => ?_)
            clear hK K hX12 hY12 hf12 hp12 hq12
            refine wpAnyH_take (i := 9) (oi := _) (v := .tuple #[.agg #[.int .i64 gf.k, .int .i64 gf.fl, .int .i64 gf.st, .slice p gf.X.length cp, .int .i64 gf.pad, .int .u32 gf.code, .int .i64 gf.last, .int .i64 gf.inc, .int .i64 gf.dep, .bool gf.only, .int .i64 gf.wt, .slice q gf.Y.length cq], .int .i64 (en : Int), .agg #[.bool fo.is, .int .i64 fo.st, .int .i64 fo.code], .int .i64 er]) rfl (by kernel_rfl) (by kernel_rfl) (by kernel_rfl) (fun _ _ _ h => h) (Or.inl ⟨by kernel_rfl, fun w2 hw => by go_simp⟩) hHeld12 ?_
            refine wpAnyH_take (i := 10) (oi := _) (v := .agg #[.int .i64 gf.k, .int .i64 gf.fl, .int .i64 gf.st, .slice p gf.X.length cp, .int .i64 gf.pad, .int .u32 gf.code, .int .i64 gf.last, .int .i64 gf.inc, .int .i64 gf.dep, .bool gf.only, .int .i64 gf.wt, .slice q gf.Y.length cq]) rfl (by kernel_rfl) (by kernel_rfl) (by kernel_rfl) (fun _ _ _ h => h) (Or.inl ⟨by kernel_rfl, fun w2 hw => by go_simp⟩) hHeld12 ?_
            refine wpAnyH_take (i := 11) (oi := _) (v := .int .i64 (en : Int)) rfl (by kernel_rfl) (by kernel_rfl) (by kernel_rfl) (fun _ _ _ h => h) (Or.inl ⟨by kernel_rfl, fun w2 hw => by go_simp⟩) hHeld12 ?_
            refine wpAnyH_take (i := 12) (oi := _) (v := .agg #[.bool fo.is, .int .i64 fo.st, .int .i64 fo.code]) rfl (by kernel_rfl) (by kernel_rfl) (by kernel_rfl) (fun _ _ _ h => h) (Or.inl ⟨by kernel_rfl, fun w2 hw => by go_simp⟩) hHeld12 ?_
            refine wpAnyH_take (i := 13) (oi := _) (v := .int .i64 er) rfl (by kernel_rfl) (by kernel_rfl) (by kernel_rfl) (fun _ _ _ h => h) (Or.inl ⟨by kernel_rfl, fun w2 hw => by go_simp⟩) hHeld12 ?_
            simp only [Act.put, List.getElem_toArray, List.getElem_cons_succ, List.getElem_cons_zero, List.setIfInBounds_toArray, List.set_cons_zero, List.set_cons_succ]
            refine wpAnyH_ready (rs := [14]) (by kernel_rfl) (by simp) ?_
            refine AllReadyH.cons rfl (fun K hK => ?_) AllReadyH.nil
            · go_simp
              refine hK.out _ _ (HKEEP.out _ (F12.out.alloc _)) (fun hHeld13 => ?_)
              clear hK K
              obtain ⟨w13, hw13⟩ : ∃ w13, w13 = w12.alloc (.cells #[.int .i64 0, .int .i64 0, .int .i64 0, .slice none 0 0, .int .i64 0, .int .u32 0, .int .i64 0, .int .i64 0, .int .i64 0, .bool false, .int .i64 0, .slice none 0 0] 36) := ⟨_, rfl⟩
              obtain ⟨ab4, hab4⟩ : ∃ ab4, ab4 = w12.heap.size := ⟨_, rfl⟩
              have A4_13 : Hid (w13.heap[ab4]? = some (.cells #[.int .i64 0, .int .i64 0, .int .i64 0, .slice none 0 0, .int .i64 0, .int .u32 0, .int .i64 0, .int .i64 0, .int .i64 0, .bool false, .int .i64 0, .slice none 0 0] 36 (0, 0))) := by rw [hw13, hab4]; exact heap_alloc_new _ _
              have F13 : Hid (Fr (fun _ => False) W w13) := by rw [hw13]; exact F12.out.alloc _
              have fa13 : Fr (fun _ => False) w12 w13 := by rw [hw13]; exact (Fr.refl _ _).alloc _
              have Z13 : Hid (ab4 = w12.heap.size ∧ ab4 < w13.heap.size ∧ w12.heap.size ≤ w13.heap.size) := ⟨hab4, lt_of_heap A4_13.out, fa13.size⟩
              have A6_13 : Hid (w13.heap[ab6]? = some (.cells #[.bool false, .int .i64 0, .int .i64 0] 38 (0, 0))) := (fa13.block _ (lt_of_heap A6_12.out) id).trans A6_12.out
              have P13 : Hid (SrcAt w13 p gf.X ∧ SetsAt w13 q cq gf.Y ∧ True) := ⟨P12.out.1.oldF fa13, P12.out.2.1.later fa13, trivial⟩
              rw [← hab4, ← hw13]
              rw [← hw13] at hHeld13
              clear hw13 hab4 fa13
              have HB : ab4 ≠ ab6 ∧ W.heap.size ≤ ab4 ∧ W.heap.size ≤ ab6 := by have h0 := F0.out.size; have := Z11.out; have := Z12.out; have := Z13.out; omega
              have HPB : ∀ ad, p = some ad → 0 < gf.X.length → ad.block ≠ ab4 ∧ ad.block ≠ ab6 ∧ W.heap.size ≤ ad.block := fun ad e hl => by have h0 := F0.out.size; have h1 := P12.out.2.2.1 ad e hl; have := Z11.out; have := Z12.out; have := Z13.out; omega
              have HQB : ∀ ad, q = some ad → 0 < gf.Y.length → ad.block ≠ ab4 ∧ ad.block ≠ ab6 ∧ W.heap.size ≤ ad.block := fun ad e hl => by have h0 := F0.out.size; have h1 := P12.out.2.2.2 ad e hl; have := Z11.out; have := Z12.out; have := Z13.out; omega
              have HPS : Hid (SrcAt w13 p gf.X ∧ SetsAt w13 q cq gf.Y) := ⟨P13.out.1, P13.out.2.1⟩
              refine wpAnyH_ready (rs := [16]) (by kernel_rfl) (by simp) ?_
              refine AllReadyH.cons rfl (fun K hK => ?_) AllReadyH.nil
              refine stepR_storeB rfl rfl 36 (.tmp 5) (.tmp 29) rfl ab4 #[.int .i64 0, .int .i64 0, .int .i64 0, .slice none 0 0, .int .i64 0, .int .u32 0, .int .i64 0, .int .i64 0, .int .i64 0, .bool false, .int .i64 0, .slice none 0 0] #[.int .i64 gf.k, .int .i64 gf.fl, .int .i64 gf.st, .slice p gf.X.length cp, .int .i64 gf.pad, .int .u32 gf.code, .int .i64 gf.last, .int .i64 gf.inc, .int .i64 gf.dep, .bool gf.only, .int .i64 gf.wt, .slice q gf.Y.length cq] 36 rfl rfl A4_13.out rfl (by kernel_rfl) (by simp [Value.oneCell']) ?_
              intro y1 H1 G1
              have F1y : Fr (fun k => W.heap.size ≤ k) W y1 := (F13.out.mono (T := fun k => W.heap.size ≤ k) (fun _ _ e => e.elim)).trans (G1.out.mono (fun k _ e => by omega))
              refine hK.out _ _ (HKEEP.out _ (F1y.mono (fun k hk e => by omega))) (fun hHeldy => ?_)
              clear hK K
              refine wpAnyH_ready (rs := [17]) (by kernel_rfl) (by simp) ?_
              refine AllReadyH.cons rfl (fun K hK => ?_) AllReadyH.nil
              go_simp
              refine hK.out _ _ hHeldy (fun _ => ?_)
              clear hK K
              refine wpAnyH_ready (rs := [18]) (by kernel_rfl) (by simp) ?_
              refine AllReadyH.cons rfl (fun K hK => ?_) AllReadyH.nil
              refine stepR_storeB rfl rfl 38 (.tmp 7) (.tmp 31) rfl ab6 #[.bool false, .int .i64 0, .int .i64 0] #[.bool fo.is, .int .i64 fo.st, .int .i64 fo.code] 38 rfl rfl ((G1.out.block _ (lt_of_heap A6_13.out) (by omega)).trans A6_13.out) rfl (by kernel_rfl) (by simp [Value.oneCell']) ?_
              intro y2 H2 G2
              have F2y : Fr (fun k => W.heap.size ≤ k) W y2 := F1y.trans (G2.out.mono (fun k _ e => by omega))
              have GG : Fr (fun k => k = ab4 ∨ k = ab6) w13 y2 := (G1.out.mono (fun _ _ e => .inl e)).trans (G2.out.mono (fun _ _ e => .inr e))
              have TT : Hid (NkF w W g most (.slice a n c) B X ob gf fo p cp q cq ab4 ab6 y2) := ⟨HSW.out.later (F2y.mono (fun k hk e => by omega)), (G2.out.block _ (lt_of_heap H1.out) (by omega)).trans H1.out, H2.out, HPS.out.1.fr GG (fun ad e hl e2 => by have := HPB ad e hl; omega), HPS.out.2.fr GG (fun ad e hl e2 => by have := HQB ad e hl; omega), fun ad e hl => (HPB ad e hl).2.2, fun ad e hl => (HQB ad e hl).2.2, HB.2.1, HB.2.2, HB.1, F2y.mono (fun k hk e => by omega)⟩
              refine hK.out _ _ TT.out.st.rd (fun _ => ?_)
              clear hK K
              refine wpAnyH_ready (rs := [19]) (by kernel_rfl) (by simp) ?_
              refine AllReadyH.cons rfl (fun K hK => ?_) AllReadyH.nil
              go_simp
              refine hK.out _ _ TT.out.st.rd (fun _ => ?_)
              clear hK K
              refine wpAnyH_done (by kernel_rfl) ?_ _
              go_wp2_with (fail)
              go_meet
              case rel => exact ⟨ab4, ab6, p, cp, q, cq, rfl, rfl, rfl, rfl, TT.out⟩
          · go_simp
            refine hK.out _ _ (HKEEP.out _ (F11.out.alloc _)) (fun hHeld14 => ?_)
            clear hK K
            obtain ⟨w14, hw14⟩ : ∃ w14, w14 = w11.alloc (.cells #[.int .i64 0, .int .i64 0, .int .i64 0, .slice none 0 0, .int .i64 0, .int .u32 0, .int .i64 0, .int .i64 0, .int .i64 0, .bool false, .int .i64 0, .slice none 0 0] 36) := ⟨_, rfl⟩
            obtain ⟨ab4, hab4⟩ : ∃ ab4, ab4 = w11.heap.size := ⟨_, rfl⟩
            have A4_14 : Hid (w14.heap[ab4]? = some (.cells #[.int .i64 0, .int .i64 0, .int .i64 0, .slice none 0 0, .int .i64 0, .int .u32 0, .int .i64 0, .int .i64 0, .int .i64 0, .bool false, .int .i64 0, .slice none 0 0] 36 (0, 0))) := by rw [hw14, hab4]; exact heap_alloc_new _ _
            have F14 : Hid (Fr (fun _ => False) W w14) := by rw [hw14]; exact F11.out.alloc _
            have fa14 : Fr (fun _ => False) w11 w14 := by rw [hw14]; exact (Fr.refl _ _).alloc _
            have Z14 : Hid (ab4 = w11.heap.size ∧ ab4 < w14.heap.size ∧ w11.heap.size ≤ w14.heap.size) := ⟨hab4, lt_of_heap A4_14.out, fa14.size⟩
            have A6_14 : Hid (w14.heap[ab6]? = some (.cells #[.bool false, .int .i64 0, .int .i64 0] 38 (0, 0))) := (fa14.block _ (lt_of_heap A6_11.out) id).trans A6_11.out
            rw [← hab4, ← hw14]
            rw [← hw14] at hHeld14
            clear hw14 hab4 fa14
            refine wpAnyH_ready (rs := [8]) (by kernel_rfl) (by simp) ?_
            refine AllReadyH.cons rfl (fun K hK => ?_) AllReadyH.nil
            · go_simp
              refine (KP.out _ F14.out).mono ?_
              rintro e w15 ⟨p, cp, q, cq, rfl, hX15, hY15, hf15, hp15, hq15⟩
              have F15 : Hid (Fr (fun _ => False) W w15) := F14.out.trans hf15
              have P15 : Hid (SrcAt w15 p gf.X ∧ SetsAt w15 q cq gf.Y ∧ (∀ ad, p = some ad → 0 < gf.X.length → w14.heap.size ≤ ad.block ∧ ad.block < w15.heap.size) ∧ (∀ ad, q = some ad → 0 < gf.Y.length → w14.heap.size ≤ ad.block ∧ ad.block < w15.heap.size)) := ⟨hX15, hY15, fun ad e hl => ⟨hp15 ad e hl, srcB_lt hX15 ad e hl⟩, fun ad e hl => ⟨hq15 ad e hl, sets_lt hY15 ad e hl⟩⟩
              have Z15 : Hid (w14.heap.size ≤ w15.heap.size) := hf15.size
              have A4_15 : Hid (w15.heap[ab4]? = some (.cells #[.int .i64 0, .int .i64 0, .int .i64 0, .slice none 0 0, .int .i64 0, .int .u32 0, .int .i64 0, .int .i64 0, .int .i64 0, .bool false, .int .i64 0, .slice none 0 0] 36 (0, 0))) := (hf15.block _ (lt_of_heap A4_14.out) id).trans A4_14.out
              have A6_15 : Hid (w15.heap[ab6]? = some (.cells #[.bool false, .int .i64 0, .int .i64 0] 38 (0, 0))) := (hf15.block _ (lt_of_heap A6_14.out) id).trans A6_14.out
              refine hK.out _ _ (HKEEP.out _ F15.out) (fun hHeld15 => ?_)
              clear hK K hX15 hY15 hf15 hp15 hq15
              refine wpAnyH_take (i := 9) (oi := _) (v := .tuple #[.agg #[.int .i64 gf.k, .int .i64 gf.fl, .int .i64 gf.st, .slice p gf.X.length cp, .int .i64 gf.pad, .int .u32 gf.code, .int .i64 gf.last, .int .i64 gf.inc, .int .i64 gf.dep, .bool gf.only, .int .i64 gf.wt, .slice q gf.Y.length cq], .int .i64 (en : Int), .agg #[.bool fo.is, .int .i64 fo.st, .int .i64 fo.code], .int .i64 er]) rfl (by kernel_rfl) (by kernel_rfl) (by kernel_rfl) (fun _ _ _ h => h) (Or.inl ⟨by kernel_rfl, fun w2 hw => by go_simp⟩) hHeld15 ?_
              refine wpAnyH_take (i := 10) (oi := _) (v := .agg #[.int .i64 gf.k, .int .i64 gf.fl, .int .i64 gf.st, .slice p gf.X.length cp, .int .i64 gf.pad, .int .u32 gf.code, .int .i64 gf.last, .int .i64 gf.inc, .int .i64 gf.dep, .bool gf.only, .int .i64 gf.wt, .slice q gf.Y.length cq]) rfl (by kernel_rfl) (by kernel_rfl) (by kernel_rfl) (fun _ _ _ h => h) (Or.inl ⟨by kernel_rfl, fun w2 hw => by go_simp⟩) hHeld15 ?_
              refine wpAnyH_take (i := 11) (oi := _) (v := .int .i64 (en : Int)) rfl (by kernel_rfl) (by kernel_rfl) (by kernel_rfl) (fun _ _ _ h => h) (Or.inl ⟨by kernel_rfl, fun w2 hw => by go_simp⟩) hHeld15 ?_
              refine wpAnyH_take (i := 12) (oi := _) (v := .agg #[.bool fo.is, .int .i64 fo.st, .int .i64 fo.code]) rfl (by kernel_rfl) (by kernel_rfl) (by kernel_rfl) (fun _ _ _ h => h) (Or.inl ⟨by kernel_rfl, fun w2 hw => by go_simp⟩) hHeld15 ?_
              refine wpAnyH_take (i := 13) (oi := _) (v := .int .i64 er) rfl (by kernel_rfl) (by kernel_rfl) (by kernel_rfl) (fun _ _ _ h => h) (Or.inl ⟨by kernel_rfl, fun w2 hw => by go_simp⟩) hHeld15 ?_
              simp only [Act.put, List.getElem_toArray, List.getElem_cons_succ, List.getElem_cons_zero, List.setIfInBounds_toArray, List.set_cons_zero, List.set_cons_succ]
              have HB : ab4 ≠ ab6 ∧ W.heap.size ≤ ab4 ∧ W.heap.size ≤ ab6 := by have h0 := F0.out.size; have := Z11.out; have := Z14.out; have := Z15.out; omega
              have HPB : ∀ ad, p = some ad → 0 < gf.X.length → ad.block ≠ ab4 ∧ ad.block ≠ ab6 ∧ W.heap.size ≤ ad.block := fun ad e hl => by have h0 := F0.out.size; have h1 := P15.out.2.2.1 ad e hl; have := Z11.out; have := Z14.out; have := Z15.out; omega
              have HQB : ∀ ad, q = some ad → 0 < gf.Y.length → ad.block ≠ ab4 ∧ ad.block ≠ ab6 ∧ W.heap.size ≤ ad.block := fun ad e hl => by have h0 := F0.out.size; have h1 := P15.out.2.2.2 ad e hl; have := Z11.out; have := Z14.out; have := Z15.out; omega
              have HPS : Hid (SrcAt w15 p gf.X ∧ SetsAt w15 q cq gf.Y) := ⟨P15.out.1, P15.out.2.1⟩
              refine wpAnyH_ready (rs := [16]) (by kernel_rfl) (by simp) ?_
              refine AllReadyH.cons rfl (fun K hK => ?_) AllReadyH.nil
              refine stepR_storeB rfl rfl 36 (.tmp 5) (.tmp 29) rfl ab4 #[.int .i64 0, .int .i64 0, .int .i64 0, .slice none 0 0, .int .i64 0, .int .u32 0, .int .i64 0, .int .i64 0, .int .i64 0, .bool false, .int .i64 0, .slice none 0 0] #[.int .i64 gf.k, .int .i64 gf.fl, .int .i64 gf.st, .slice p gf.X.length cp, .int .i64 gf.pad, .int .u32 gf.code, .int .i64 gf.last, .int .i64 gf.inc, .int .i64 gf.dep, .bool gf.only, .int .i64 gf.wt, .slice q gf.Y.length cq] 36 rfl rfl A4_15.out rfl (by kernel_rfl) (by simp [Value.oneCell']) ?_
              intro y1 H1 G1
              have F1y : Fr (fun k => W.heap.size ≤ k) W y1 := (F15.out.mono (T := fun k => W.heap.size ≤ k) (fun _ _ e => e.elim)).trans (G1.out.mono (fun k _ e => by omega))
              refine hK.out _ _ (HKEEP.out _ (F1y.mono (fun k hk e => by omega))) (fun hHeldy => ?_)
              clear hK K
              refine wpAnyH_ready (rs := [17]) (by kernel_rfl) (by simp) ?_
              refine AllReadyH.cons rfl (fun K hK => ?_) AllReadyH.nil
              go_simp
              refine hK.out _ _ hHeldy (fun _ => ?_)
              clear hK K
              refine wpAnyH_ready (rs := [18]) (by kernel_rfl) (by simp) ?_
              refine AllReadyH.cons rfl (fun K hK => ?_) AllReadyH.nil
              refine stepR_storeB rfl rfl 38 (.tmp 7) (.tmp 31) rfl ab6 #[.bool false, .int .i64 0, .int .i64 0] #[.bool fo.is, .int .i64 fo.st, .int .i64 fo.code] 38 rfl rfl ((G1.out.block _ (lt_of_heap A6_15.out) (by omega)).trans A6_15.out) rfl (by kernel_rfl) (by simp [Value.oneCell']) ?_
              intro y2 H2 G2
              have F2y : Fr (fun k => W.heap.size ≤ k) W y2 := F1y.trans (G2.out.mono (fun k _ e => by omega))
              have GG : Fr (fun k => k = ab4 ∨ k = ab6) w15 y2 := (G1.out.mono (fun _ _ e => .inl e)).trans (G2.out.mono (fun _ _ e => .inr e))
              have TT : Hid (NkF w W g most (.slice a n c) B X ob gf fo p cp q cq ab4 ab6 y2) := ⟨HSW.out.later (F2y.mono (fun k hk e => by omega)), (G2.out.block _ (lt_of_heap H1.out) (by omega)).trans H1.out, H2.out, HPS.out.1.fr GG (fun ad e hl e2 => by have := HPB ad e hl; omega), HPS.out.2.fr GG (fun ad e hl e2 => by have := HQB ad e hl; omega), fun ad e hl => (HPB ad e hl).2.2, fun ad e hl => (HQB ad e hl).2.2, HB.2.1, HB.2.2, HB.1, F2y.mono (fun k hk e => by omega)⟩
              refine hK.out _ _ TT.out.st.rd (fun _ => ?_)
              clear hK K
              refine wpAnyH_ready (rs := [19]) (by kernel_rfl) (by simp) ?_
              refine AllReadyH.cons rfl (fun K hK => ?_) AllReadyH.nil
              go_simp
              refine hK.out _ _ TT.out.st.rd (fun _ => ?_)
              clear hK K
              refine wpAnyH_done (by kernel_rfl) ?_ _
              go_wp2_with (fail)
              go_meet
              case rel => exact ⟨ab4, ab6, p, cp, q, cq, rfl, rfl, rfl, rfl, TT.out⟩
      case rest =>
        obtain ⟨b4, b6, p, cp, q, cq, rfl, rfl, rfl, rfl, HT⟩ := hcut
        obtain ⟨fi, fs, fcd⟩ := fo
        have HT2 := HT.out
        obtain ⟨c0, c1, c2, c3, c4⟩ := r2cells HT2.st.rd
        obtain ⟨e0, e1, e2⟩ := cells3 HT2.a6
        have z1 : wc.frozen? ⟨g, 1, none⟩ = false := frozen_of_heap HT2.st.rd
        have z2 : wc.frozen? ⟨g, 2, none⟩ = false := frozen_of_heap HT2.st.rd
        have z3 : wc.frozen? ⟨g, 3, none⟩ = false := frozen_of_heap HT2.st.rd
        have z4 : wc.frozen? ⟨g, 4, none⟩ = false := frozen_of_heap HT2.st.rd
        clear HT2
        by_cases her : er = 0
        case neg =>
          have hb : (er == 0) = false := by simp [her]
          have HE : Hid (out = ((zeroF, false, ⟨false, 0, 0⟩), B, X)) := by show _ = _; rw [HNX.out, if_pos her]
          clear her
          go_wp2_with (first | (refine wpList_storeB rfl 36 (.tmp 2) (.tmp 35) rfl w.heap.size #[.int .i64 0, .int .i64 0, .int .i64 0, .slice none 0 0, .int .i64 0, .int .u32 0, .int .i64 0, .int .i64 0, .int .i64 0, .bool false, .int .i64 0, .slice none 0 0] #[.int .i64 0, .int .i64 0, .int .i64 0, .slice none 0 0, .int .i64 0, .int .u32 0, .int .i64 0, .int .i64 0, .int .i64 0, .bool false, .int .i64 0, .slice none 0 0] 36 rfl rfl HT.out.st.r1 rfl (by kernel_rfl) (by simp [Value.oneCell']) ?_; intro w5 H5 G5) | (refine wpList_storeB rfl 38 (.tmp 4) (.tmp 36) rfl (w.heap.size + 1) #[.bool false, .int .i64 0, .int .i64 0] #[.bool false, .int .i64 0, .int .i64 0] 38 rfl rfl ((G5.out.block _ (lt_of_heap HT.out.st.r2) (by omega)).trans HT.out.st.r2) rfl (by kernel_rfl) (by simp [Value.oneCell']) ?_; intro w6 H6 G6))
          try simp only [Exit.jump]
          obtain ⟨r0, r1, r2, r3, r4, r5, r6, r7, r8, r9, r10, r11⟩ := cells12 ((G6.out.block _ (lt_of_heap H5.out) (by omega)).trans H5.out)
          obtain ⟨s0, s1, s2⟩ := cells3 H6.out
          refine bodyPost_ret (v := .tuple #[.agg #[.int .i64 0, .int .i64 0, .int .i64 0, .slice none 0 0, .int .i64 0, .int .u32 0, .int .i64 0, .int .i64 0, .int .i64 0, .bool false, .int .i64 0, .slice none 0 0], .bool false, .agg #[.bool false, .int .i64 0, .int .i64 0]]) (by simp [results, Try.results13, go_sem, r0, r1, r2, r3, r4, r5, r6, r7, r8, r9, r10, r11, s0, s1, s2]) rfl ?_
          have FALL : Fr (fun k => k = w.heap.size ∨ k = w.heap.size + 1) wc w6 := (G5.out.mono (fun _ _ e => .inl e)).trans (G6.out.mono (fun _ _ e => .inr e))
          rw [HE.out]
          have hdn := HT.out.st.done FALL
          refine ⟨none, 0, none, 0, _, rfl, SrcAt.nil _ _, SetsAt.nil _, hdn.1, hdn.2, ?_⟩
          rcases HT.out.st.new with e | ⟨k, hk, hk2⟩
          · exact .inl e
          · exact .inr ⟨k, hk, by omega⟩
        case pos =>
          subst her
          have hen := HEN.out rfl
          have hnn := HNX.out
          rw [if_neg (by simp)] at hnn
          have HNX2 : Hid (out = if fi = true ∧ fs = 0 then ((zeroF, false, ⟨fi, fs, fcd⟩), B, ⟨fi, fs, fcd⟩) else if fi = true then ((zeroF, false, ⟨fi, fs, fcd⟩), B.drop en, X) else if knownB gf.k = true then ((gf, true, ⟨false, 0, 0⟩), B.drop en, X) else nextR most (B.drop en) X) := hnn
          clear hnn
          obtain ⟨dp, hcut1, hcs⟩ := own_cut HT.out.st.own en hen.2
          have HCS : Hid (SrcAt wc dp (B.drop en)) := hcs wc (own_src HT.out.st.own)
          have hdl : (B.drop en).length = n - en := by rw [List.length_drop, HBN.out]
          have HDL : Hid ((B.drop en).length = n - en) := hdl
          clear hcs hdl
          obtain ⟨i, j1, j2, j3, j4⟩ := info5
          have J1 : Hid (Try.prog.info? 5 = some i) := j1
          have J2 : Hid (i.zero = some (.int .u8 0)) := j2
          have J3 : Hid (i.size = 1) := j3
          have J4 : Hid (i.bytes = 1) := j4
          clear j1 j2 j3 j4
          have k1 : (wc.alloc (.cells #[] 5)).cell? ⟨g, 1, none⟩ = some (.slice a n c) := (((Fr.refl (fun _ => False) wc).alloc (.cells #[] 5)).cell (p := ⟨g, 1, none⟩) HT.out.st.rd.lt id).trans (r2cells HT.out.st.rd).2.1
          cases fi
          case true =>
            cases hs : (fs == 0)
            case false =>
              have hs0 : ¬ fs = 0 := by simpa using hs
              have HE : Hid (out = ((zeroF, false, ⟨true, fs, fcd⟩), B.drop en, X)) := by show _ = _; rw [HNX2.out, if_neg (by simp [hs0]), if_pos (by simp)]
              clear hs0
              go_wp2_with (refine wpList_append_bytes rfl (.tmp 49) (.tmp 55) 31 31 rfl 5 i Try.underlying31 Try.underlying31 J1.out J2.out J3.out J4.out (.slice (some ⟨wc.heap.size, 0, none⟩) 0 0) [] (by go_simp) (own_empty wc 5) dp (n - en) (c - en) (by go_simp) (B.drop en) (HCS.out.oldF ((Fr.refl _ _).alloc _)) HDL.out (by have := HBN.out; simp; omega) ?_; intro a' n' c' w1 N1 o1 F1 B1; have HH1 : Hid (OwnAt w1 5 (.slice a' n' c') (bv ([] ++ B.drop en))) := o1; clear o1; refine Hid.out ?_)
              unfold Hid
              have FC1 : Hid (Fr (fun _ => False) wc w1) := (((Fr.refl (fun k => k = wc.heap.size) _).alloc _).trans (F1.out.mono (fun k _ e => by simp [Value.ownBlock] at e; omega))).mono (fun k hk e => by omega)
              have O1 : Hid (OwnAt w1 5 (.slice a' n' c') (bv (B.drop en))) := (by have h1 := HH1.out; rw [List.nil_append] at h1; exact h1)
              have R1 : Hid (RC2 w1 g most (.slice a n c) X) := HT.out.st.rd.fr FC1.out id
              have NW : Hid (∃ k, (Value.slice a' n' c').ownBlock = some k ∧ wc.heap.size ≤ k) := by
                rcases B1.out with e | ⟨k, hk, hk2⟩
                · exact ⟨wc.heap.size, by rw [e]; rfl, Nat.le_refl _⟩
                · exact ⟨k, hk, by simp at hk2; omega⟩
              have d1 : w1.cell? ⟨g, 1, none⟩ = some (.slice a n c) := (r2cells R1.out).2.1
              have y1 : w1.frozen? ⟨g, 1, none⟩ = false := frozen_of_heap R1.out
              go_upto_region 9 with (fail)
              obtain ⟨w3, hw3⟩ : ∃ w3, w3 = w1.setCell ⟨g, 1, none⟩ (.slice a' n' c') := ⟨_, rfl⟩
              have G3 : Hid (Fr (fun k => k = g) wc w3) := by rw [hw3]; exact (FC1.out.mono (fun _ _ e => e.elim)).setB 1 _
              have S3 : Hid (NdS w g most (.slice a' n' c') (B.drop en) X ob w3) := by
                refine ⟨by rw [hw3]; exact rset R1.out, by rw [hw3]; exact O1.out.fr ((Fr.refl _ _).setB 1 _) (own_ne2 R1.out O1.out), (G3.out.block _ (lt_of_heap HT.out.st.r1) (by have := HLT.out; omega)).trans HT.out.st.r1, (G3.out.block _ (lt_of_heap HT.out.st.r2) (by have := HLT.out; omega)).trans HT.out.st.r2, ?_, HT.out.st.old, HT.out.st.fr.trans G3.out, HT.out.st.lt⟩
                obtain ⟨k, hk, hk2⟩ := NW.out
                exact .inr ⟨k, hk, by have := HT.out.st.big; omega⟩
              have A3 : Hid (FAt w3 b4 gf p cp q cq) := (G3.out.block _ (lt_of_heap HT.out.a4) (by have := HT.out.g4; have := HWS.out; have := HLT.out; omega)).trans HT.out.a4
              have B3 : Hid (w3.heap[b6]? = some (.cells #[.bool true, .int .i64 fs, .int .i64 fcd] 38 (0, 0))) := (G3.out.block _ (lt_of_heap HT.out.a6) (by have := HT.out.g6; have := HWS.out; have := HLT.out; omega)).trans HT.out.a6
              have P3 : Hid (SrcAt w3 p gf.X ∧ SetsAt w3 q cq gf.Y) := ⟨HT.out.src.fr G3.out (fun ad e hl e2 => by have := HT.out.fp ad e hl; have := HWS.out; have := HLT.out; omega), HT.out.sets.fr G3.out (fun ad e hl e2 => by have := HT.out.fq ad e hl; have := HWS.out; have := HLT.out; omega)⟩
              rw [← hw3]
              clear hw3 c0 c1 c2 c3 c4 e0 e1 e2 z1 z2 z3 z4 d1 y1 k1
              obtain ⟨e0, e1, e2⟩ := cells3 B3.out
              go_wp2_with (fail)
              clear e0 e1 e2
              refine wp_region_held_drew (S := fun w2 => w2.heap[b6]? = some (.cells #[.bool true, .int .i64 fs, .int .i64 fcd] 38 (0, 0))) (by kernel_rfl) B3.out (fun hHeld => ?_)
              refine wpAnyH_take (i := 0) (oi := _) (v := .agg #[.int .i64 0, .int .i64 0, .int .i64 0, .slice none 0 0, .int .i64 0, .int .u32 0, .int .i64 0, .int .i64 0, .int .i64 0, .bool false, .int .i64 0, .slice none 0 0]) rfl (by kernel_rfl) (by kernel_rfl) (by kernel_rfl) (fun _ _ _ h => h) (Or.inl ⟨by kernel_rfl, fun w2 hw => by go_simp⟩) hHeld ?_
              refine wpAnyH_take (i := 1) (oi := _) (v := .agg #[.bool true, .int .i64 fs, .int .i64 fcd]) rfl (by kernel_rfl) (by kernel_rfl) (by kernel_rfl) (fun _ _ _ h => h) (Or.inl ⟨by kernel_rfl, fun w2 hw => by obtain ⟨d0, d1, d2⟩ := cells3 hw; go_simp⟩) hHeld ?_
              simp only [Act.put, List.getElem_toArray, List.getElem_cons_succ, List.getElem_cons_zero, List.setIfInBounds_toArray, List.set_cons_zero, List.set_cons_succ]
              have hz : w.heap.size + 2 ≤ b6 := by have := HWS.out; have := HT.out.g6; omega
              refine wpAnyH_ready (rs := [2]) (by kernel_rfl) (by simp) ?_
              refine AllReadyH.cons rfl (fun K hK => ?_) AllReadyH.nil
              refine stepR_storeB rfl rfl 36 (.tmp 2) (.tmp 61) rfl w.heap.size #[.int .i64 0, .int .i64 0, .int .i64 0, .slice none 0 0, .int .i64 0, .int .u32 0, .int .i64 0, .int .i64 0, .int .i64 0, .bool false, .int .i64 0, .slice none 0 0] #[.int .i64 0, .int .i64 0, .int .i64 0, .slice none 0 0, .int .i64 0, .int .u32 0, .int .i64 0, .int .i64 0, .int .i64 0, .bool false, .int .i64 0, .slice none 0 0] 36 rfl rfl S3.out.r1 rfl (by kernel_rfl) (by simp [Value.oneCell']) ?_
              intro w5 H5 G5
              refine hK.out _ _ ((G5.out.block _ (lt_of_heap hHeld) (by omega)).trans hHeld) (fun hHeld2 => ?_)
              clear hK K
              refine wpAnyH_ready (rs := [3]) (by kernel_rfl) (by simp) ?_
              refine AllReadyH.cons rfl (fun K hK => ?_) AllReadyH.nil
              go_simp
              refine hK.out _ _ hHeld2 (fun _ => ?_)
              clear hK K
              refine wpAnyH_ready (rs := [4]) (by kernel_rfl) (by simp) ?_
              refine AllReadyH.cons rfl (fun K hK => ?_) AllReadyH.nil
              refine stepR_storeB rfl rfl 38 (.tmp 4) (.tmp 62) rfl (w.heap.size + 1) #[.bool false, .int .i64 0, .int .i64 0] #[.bool true, .int .i64 fs, .int .i64 fcd] 38 rfl rfl ((G5.out.block _ (lt_of_heap S3.out.r2) (by omega)).trans S3.out.r2) rfl (by kernel_rfl) (by simp [Value.oneCell']) ?_
              intro w6 H6 G6
              refine hK.out _ _ ((G6.out.block _ (lt_of_heap hHeld2) (by omega)).trans hHeld2) (fun _ => ?_)
              clear hK K
              refine wpAnyH_done (by kernel_rfl) ?_ _
              go_wp2_with (fail)
              try simp only [Exit.jump]
              obtain ⟨r0, r1, r2, r3, r4, r5, r6, r7, r8, r9, r10, r11⟩ := cells12 ((G6.out.block _ (lt_of_heap H5.out) (by omega)).trans H5.out)
              obtain ⟨s0, s1, s2⟩ := cells3 H6.out
              refine bodyPost_ret (v := .tuple #[.agg #[.int .i64 0, .int .i64 0, .int .i64 0, .slice none 0 0, .int .i64 0, .int .u32 0, .int .i64 0, .int .i64 0, .int .i64 0, .bool false, .int .i64 0, .slice none 0 0], .bool false, .agg #[.bool true, .int .i64 fs, .int .i64 fcd]]) (by simp [results, Try.results13, go_sem, r0, r1, r2, r3, r4, r5, r6, r7, r8, r9, r10, r11, s0, s1, s2]) rfl ?_
              have FALL : Fr (fun k => k = w.heap.size ∨ k = w.heap.size + 1) w3 w6 := ((Fr.refl _ _).drew).trans ((G5.out.mono (fun _ _ e => .inl e)).trans (G6.out.mono (fun _ _ e => .inr e)))
              rw [HE.out]
              have hdn := S3.out.done FALL
              refine ⟨none, 0, none, 0, _, rfl, SrcAt.nil _ _, SetsAt.nil _, hdn.1, hdn.2, ?_⟩
              rcases S3.out.new with e | ⟨k, hk, hk2⟩
              · exact .inl e
              · exact .inr ⟨k, hk, by omega⟩
            case true =>
              have hs0 : fs = 0 := by simpa using hs
              have HE : Hid (nextR most B ⟨true, fs, fcd⟩ = out) := by show _ = _; rw [HNX2.out, if_pos (by simp [hs0]), nextR_eq, if_pos rfl]
              clear hs0
              have S5 : Hid (NdS w g most (.slice a n c) B ⟨true, fs, fcd⟩ ob (((wc.setCell ⟨g, 2, none⟩ (.bool true)).setCell ⟨g, 3, none⟩ (.int .i64 fs)).setCell ⟨g, 4, none⟩ (.int .i64 fcd))) := by
                have G5 : Fr (fun k => k = g) wc (((wc.setCell ⟨g, 2, none⟩ (.bool true)).setCell ⟨g, 3, none⟩ (.int .i64 fs)).setCell ⟨g, 4, none⟩ (.int .i64 fcd)) := (((Fr.refl _ _).setB 2 _).setB 3 _).setB 4 _
                exact ⟨rset (rset (rset HT.out.st.rd)), HT.out.st.own.fr G5 (own_ne2 HT.out.st.rd HT.out.st.own), (G5.block _ (lt_of_heap HT.out.st.r1) (by have := HLT.out; omega)).trans HT.out.st.r1, (G5.block _ (lt_of_heap HT.out.st.r2) (by have := HLT.out; omega)).trans HT.out.st.r2, HT.out.st.new, HT.out.st.old, HT.out.st.fr.trans G5, HT.out.st.lt⟩
              go_wp2_with (fail)
              go_roundg (2 * B.length)
              case rel => exact ⟨a, n, c, B, ⟨true, fs, fcd⟩, by simp, hBb, S5.out, HE.out⟩
              case measure => omega
          case false =>
            go_wp2_with (refine wpList_append_bytes rfl (.tmp 49) (.tmp 55) 31 31 rfl 5 i Try.underlying31 Try.underlying31 J1.out J2.out J3.out J4.out (.slice (some ⟨wc.heap.size, 0, none⟩) 0 0) [] (by go_simp) (own_empty wc 5) dp (n - en) (c - en) (by go_simp) (B.drop en) (HCS.out.oldF ((Fr.refl _ _).alloc _)) HDL.out (by have := HBN.out; simp; omega) ?_; intro a' n' c' w1 N1 o1 F1 B1; have HH1 : Hid (OwnAt w1 5 (.slice a' n' c') (bv ([] ++ B.drop en))) := o1; clear o1; refine Hid.out ?_)
            unfold Hid
            have FC1 : Hid (Fr (fun _ => False) wc w1) := (((Fr.refl (fun k => k = wc.heap.size) _).alloc _).trans (F1.out.mono (fun k _ e => by simp [Value.ownBlock] at e; omega))).mono (fun k hk e => by omega)
            have O1 : Hid (OwnAt w1 5 (.slice a' n' c') (bv (B.drop en))) := (by have h1 := HH1.out; rw [List.nil_append] at h1; exact h1)
            have R1 : Hid (RC2 w1 g most (.slice a n c) X) := HT.out.st.rd.fr FC1.out id
            have NW : Hid (∃ k, (Value.slice a' n' c').ownBlock = some k ∧ wc.heap.size ≤ k) := by
              rcases B1.out with e | ⟨k, hk, hk2⟩
              · exact ⟨wc.heap.size, by rw [e]; rfl, Nat.le_refl _⟩
              · exact ⟨k, hk, by simp at hk2; omega⟩
            have d1 : w1.cell? ⟨g, 1, none⟩ = some (.slice a n c) := (r2cells R1.out).2.1
            have y1 : w1.frozen? ⟨g, 1, none⟩ = false := frozen_of_heap R1.out
            go_upto_region 9 with (fail)
            obtain ⟨w3, hw3⟩ : ∃ w3, w3 = w1.setCell ⟨g, 1, none⟩ (.slice a' n' c') := ⟨_, rfl⟩
            have G3 : Hid (Fr (fun k => k = g) wc w3) := by rw [hw3]; exact (FC1.out.mono (fun _ _ e => e.elim)).setB 1 _
            have S3 : Hid (NdS w g most (.slice a' n' c') (B.drop en) X ob w3) := by
              refine ⟨by rw [hw3]; exact rset R1.out, by rw [hw3]; exact O1.out.fr ((Fr.refl _ _).setB 1 _) (own_ne2 R1.out O1.out), (G3.out.block _ (lt_of_heap HT.out.st.r1) (by have := HLT.out; omega)).trans HT.out.st.r1, (G3.out.block _ (lt_of_heap HT.out.st.r2) (by have := HLT.out; omega)).trans HT.out.st.r2, ?_, HT.out.st.old, HT.out.st.fr.trans G3.out, HT.out.st.lt⟩
              obtain ⟨k, hk, hk2⟩ := NW.out
              exact .inr ⟨k, hk, by have := HT.out.st.big; omega⟩
            have A3 : Hid (FAt w3 b4 gf p cp q cq) := (G3.out.block _ (lt_of_heap HT.out.a4) (by have := HT.out.g4; have := HWS.out; have := HLT.out; omega)).trans HT.out.a4
            have B3 : Hid (w3.heap[b6]? = some (.cells #[.bool false, .int .i64 fs, .int .i64 fcd] 38 (0, 0))) := (G3.out.block _ (lt_of_heap HT.out.a6) (by have := HT.out.g6; have := HWS.out; have := HLT.out; omega)).trans HT.out.a6
            have P3 : Hid (SrcAt w3 p gf.X ∧ SetsAt w3 q cq gf.Y) := ⟨HT.out.src.fr G3.out (fun ad e hl e2 => by have := HT.out.fp ad e hl; have := HWS.out; have := HLT.out; omega), HT.out.sets.fr G3.out (fun ad e hl e2 => by have := HT.out.fq ad e hl; have := HWS.out; have := HLT.out; omega)⟩
            rw [← hw3]
            clear hw3 c0 c1 c2 c3 c4 e0 e1 e2 z1 z2 z3 z4 d1 y1 k1
            obtain ⟨e0, e1, e2⟩ := cells3 B3.out
            obtain ⟨d0, d1, d2, d3, d4, d5, d6, d7, d8, d9, d10, d11⟩ := fcells A3.out
            have KK := rKnown_in gf.k w3
            cases hk : knownB gf.k
            case true =>
              rw [hk] at KK
              have HE : Hid (out = ((gf, true, ⟨false, 0, 0⟩), B.drop en, X)) := by show _ = _; rw [HNX2.out, if_neg (by simp), if_neg (by simp), if_pos hk]
              clear hk
              go_wp2_with (first
                | (go_at_call 25; refine KK.mono ?_; clear KK; rintro e w' ⟨rfl, rfl⟩)
                | (refine wpList_storeB rfl 36 (.tmp 2) (.tmp 66) rfl w.heap.size #[.int .i64 0, .int .i64 0, .int .i64 0, .slice none 0 0, .int .i64 0, .int .u32 0, .int .i64 0, .int .i64 0, .int .i64 0, .bool false, .int .i64 0, .slice none 0 0] #[.int .i64 gf.k, .int .i64 gf.fl, .int .i64 gf.st, .slice p gf.X.length cp, .int .i64 gf.pad, .int .u32 gf.code, .int .i64 gf.last, .int .i64 gf.inc, .int .i64 gf.dep, .bool gf.only, .int .i64 gf.wt, .slice q gf.Y.length cq] 36 rfl rfl S3.out.r1 rfl (by kernel_rfl) (by simp [Value.oneCell']) ?_; intro w5 H5 G5)
                | (refine wpList_storeB rfl 38 (.tmp 4) (.tmp 67) rfl (w.heap.size + 1) #[.bool false, .int .i64 0, .int .i64 0] #[.bool false, .int .i64 0, .int .i64 0] 38 rfl rfl ((G5.out.block _ (lt_of_heap S3.out.r2) (by omega)).trans S3.out.r2) rfl (by kernel_rfl) (by simp [Value.oneCell']) ?_; intro w6 H6 G6))
              try simp only [Exit.jump]
              obtain ⟨r0, r1, r2, r3, r4, r5, r6, r7, r8, r9, r10, r11⟩ := cells12 ((G6.out.block _ (lt_of_heap H5.out) (by omega)).trans H5.out)
              obtain ⟨s0, s1, s2⟩ := cells3 H6.out
              refine bodyPost_ret (v := .tuple #[.agg #[.int .i64 gf.k, .int .i64 gf.fl, .int .i64 gf.st, .slice p gf.X.length cp, .int .i64 gf.pad, .int .u32 gf.code, .int .i64 gf.last, .int .i64 gf.inc, .int .i64 gf.dep, .bool gf.only, .int .i64 gf.wt, .slice q gf.Y.length cq], .bool true, .agg #[.bool false, .int .i64 0, .int .i64 0]]) (by simp [results, Try.results13, go_sem, r0, r1, r2, r3, r4, r5, r6, r7, r8, r9, r10, r11, s0, s1, s2]) rfl ?_
              have FALL : Fr (fun k => k = w.heap.size ∨ k = w.heap.size + 1) w3 w6 := (G5.out.mono (fun _ _ e => .inl e)).trans (G6.out.mono (fun _ _ e => .inr e))
              rw [HE.out]
              have hdn := S3.out.done FALL
              refine ⟨p, cp, q, cq, _, rfl, P3.out.1.fr FALL (fun ad e hl e2 => by have := HT.out.fp ad e hl; have := HWS.out; omega), P3.out.2.fr FALL (fun ad e hl e2 => by have := HT.out.fq ad e hl; have := HWS.out; omega), hdn.1, hdn.2, ?_⟩
              rcases S3.out.new with e | ⟨k, hk, hk2⟩
              · exact .inl e
              · exact .inr ⟨k, hk, by omega⟩
            case false =>
              rw [hk] at KK
              have HE : Hid (nextR most (B.drop en) X = out) := by show _ = _; rw [HNX2.out, if_neg (by simp), if_neg (by simp), if_neg (by rw [hk]; simp)]
              clear hk
              go_wp2_with (go_at_call 25; refine KK.mono ?_; clear KK; rintro e w' ⟨rfl, rfl⟩)
              go_roundg (2 * (B.drop en).length + 1)
              case rel => exact ⟨a', n', c', B.drop en, X, by rw [HX.out]; rfl, by rw [HDL.out]; have := HBN.out; omega, S3.out, HE.out⟩
              case measure => rw [HDL.out]; have := HBN.out; omega
end Go.Proofs.Ytikaefjhmgcidaa
