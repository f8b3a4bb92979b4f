/- Contracts of the reader's frames and find. -/
import Derived.Test.YtikaefjhmgcidaaZTc
import Derived.WalkMore
import Derived.Deep.LoopGhost
namespace Go.Proofs.Ytikaefjhmgcidaa
open Go.RowKit
set_option linter.unusedVariables false
set_option maxRecDepth 100000
set_option maxHeartbeats 4000000

theorem frames_in (g : Nat) (w : World) :
    Calls Try.prog 30 #[.pointer (some ⟨g, 0, none⟩)] w fun e w' => e = .returned (.func (.func 46) #[] #[.pointer (some ⟨w.heap.size, 0, none⟩)]) ∧ w' = w.alloc (.cells #[.pointer (some ⟨g, 0, none⟩)] 23) := by
  go_enter Try.func30, Try.ntmps30
  go_wp2_with (fail)
  go_ret
  exact ⟨rfl, rfl⟩
theorem fKnown_at (k : Int) (w : World) : Calls Try.prog 31 #[.int .i64 k] w fun e w' => e = .returned (.bool (knownB k)) ∧ w = w' := Known_in k w

/-- What find answers. -/
def FoundAs (w : World) (g : Nat) (most : Int) (v : Value) (D : List UInt8) (r : (Fra × Bool × Flt) × List UInt8 × Flt) (e : Ending) (w' : World) : Prop :=
  ∃ p cp q cq at', e = .returned (.tuple #[.agg #[.int .i64 r.1.1.k, .int .i64 r.1.1.fl, .int .i64 r.1.1.st, .slice p r.1.1.X.length cp, .int .i64 r.1.1.pad, .int .u32 r.1.1.code, .int .i64 r.1.1.last, .int .i64 r.1.1.inc, .int .i64 r.1.1.dep, .bool r.1.1.only, .int .i64 r.1.1.wt, .slice q r.1.1.Y.length cq], .bool r.1.2.1, .agg #[.bool r.1.2.2.is, .int .i64 r.1.2.2.st, .int .i64 r.1.2.2.code]]) ∧ SrcAt w' p r.1.1.X ∧ SetsAt w' q cq r.1.1.Y ∧ (∀ ad, p = some ad → 0 < r.1.1.X.length → w.heap.size ≤ ad.block) ∧ (∀ ad, q = some ad → 0 < r.1.1.Y.length → w.heap.size ≤ ad.block) ∧ RdC w' g most v at' r.2.2 ∧ at' ≤ D.length ∧ D.drop at' = r.2.1 ∧ Fr (fun k => k = g) w w'

/-- Where find's loop stands. -/
structure FdS (w W : World) (g : Nat) (most : Int) (v : Value) (at' : Nat) (X : Flt) (wr : World) : Prop where
  rd : RdC wr g most v at' X
  bx : wr.heap[w.heap.size + 2]? = some (.cells #[.pointer (some ⟨g, 0, none⟩)] 23 (0, 0))
  r1 : wr.heap[w.heap.size]? = some (.cells #[.int .i64 0, .int .i64 0, .int .i64 0, .slice none 0 0, .int .i64 0, .int .u32 0, .int .i64 0, .int .i64 0, .int .i64 0, .bool false, .int .i64 0, .slice none 0 0] 36 (0, 0))
  r2 : wr.heap[w.heap.size + 1]? = some (.cells #[.bool false, .int .i64 0, .int .i64 0] 38 (0, 0))
  fr : Fr (fun k => k = g) w wr
  lt : g < w.heap.size

theorem FdS.keep {w W : World} {g : Nat} {most : Int} {v : Value} {at' at2 : Nat} {X X2 : Flt} {wr w2 : World} (h : FdS w W g most v at' X wr) (hr : RdC w2 g most v at2 X2) (hf : Fr (fun k => k = g) wr w2) : FdS w W g most v at2 X2 w2 :=
  ⟨hr, (hf.block _ (lt_of_heap h.bx) (by have := h.lt; omega)).trans h.bx, (hf.block _ (lt_of_heap h.r1) (by have := h.lt; omega)).trans h.r1, (hf.block _ (lt_of_heap h.r2) (by have := h.lt; omega)).trans h.r2, h.fr.trans hf, h.lt⟩

theorem find_in (g : Nat) (most : Int) (a : Option Addr) (n c at_ : Nat) (X : Flt) (D : List UInt8) (w : World) (h : RdC w g most (.slice a n c) at_ X) (ho : OwnAt w 5 (.slice a n c) (bv D)) (hat : at_ ≤ n) (hn : n ≤ 225179981368371) (hmost : (Lit.int .i64 most).wf = true) (hX : X.is = false) :
    Calls Try.prog 22 #[.pointer (some ⟨g, 0, none⟩)] w fun e w' => FoundAs w g most (.slice a n c) D (nextR most (D.drop at_) X) e w' := by
  obtain ⟨W, hW⟩ : ∃ W, W = ((w.alloc (.cells #[.int .i64 0, .int .i64 0, .int .i64 0, .slice none 0 0, .int .i64 0, .int .u32 0, .int .i64 0, .int .i64 0, .int .i64 0, .bool false, .int .i64 0, .slice none 0 0] 36)).alloc (.cells #[.bool false, .int .i64 0, .int .i64 0] 38)).alloc (.cells #[.pointer (some ⟨g, 0, none⟩)] 23) := ⟨_, rfl⟩
  have hfw : Fr (fun _ => False) w W := by rw [hW]; exact (((Fr.refl _ _).alloc _).alloc _).alloc _
  have H0 : Hid (FdS w W g most (.slice a n c) at_ X W) := by
    refine ⟨h.fr hfw id, ?_, ?_, ?_, hfw.mono (fun _ _ e => e.elim), h.lt⟩
    · rw [hW]; exact last_at _ (by simp)
    · rw [hW]; exact past_at _ (past_at _ (heap_alloc_new w _))
    · rw [hW]; exact past_at _ (last_at _ (by simp))
  have hDn : D.length = n := (own_len ho).1.symm
  have HDN : Hid (D.length = n) := hDn
  have HOWN : Hid (∀ wr, Fr (fun k => k = g) w wr → OwnAt wr 5 (.slice a n c) (bv D)) := fun wr hf => ho.fr hf (own_ne h ho)
  have KT : Hid (∀ at' wr, FdS w W g most (.slice a n c) at' X wr → at' ≤ n → Calls Try.prog 46 #[.pointer (some ⟨w.heap.size + 2, 0, none⟩)] wr fun e w' => TookAs wr g most (.slice a n c) at' X (parseO (D.drop at') most) e w') := fun at' wr hs hl => take_in g (w.heap.size + 2) most a n c at' X D wr hs.rd hs.bx (HOWN.out _ hs.fr) hl hn hmost
  obtain ⟨out, hout⟩ : ∃ out, nextR most (D.drop at_) X = out := ⟨_, rfl⟩
  have HO : Hid (nextR most (D.drop at_) X = out) := hout
  have HX : Hid (¬ X.is = true) := by show ¬ _; rw [hX]; simp
  rw [hout]
  clear hDn hout h ho hfw hX hmost
  go_enter Try.func22, Try.ntmps22
  go_wp2_with (fail)
  go_step3
  go_wp2_with (go_at_call 30; refine (frames_in g _).mono ?_; rintro e w' ⟨rfl, rfl⟩)
  go_step3
  go_wp2_with (fail)
  rw [← hW]
  clear hW
  go_loopg [8] (n - at_) (fun gk v8 wr => ∃ at' : Nat, Hid (gk + at' = n ∧ FdS w W g most (.slice a n c) at' X wr ∧ nextR most (D.drop at') X = out))
  case atStart => exact ⟨at_, by omega, H0.out, HO.out⟩
  case round =>
    rename World => wr
    obtain ⟨at', HR⟩ := hrel
    have hgk := HR.out.1
    obtain ⟨⟨gf, en, ⟨fi, fs, fcd⟩, er⟩, hu⟩ : ∃ u, parseO (D.drop at') most = u := ⟨_, rfl⟩
    have K1 := KT.out at' wr HR.out.2.1 (by omega)
    rw [hu] at K1
    have hnx := nextR_eq most (D.drop at') X
    rw [HR.out.2.2, hu, if_neg HX.out] at hnx
    have HNX : Hid (out = if er ≠ 0 then ((zeroF, false, ⟨false, 0, 0⟩), D.drop at', X) else if fi = true ∧ fs = 0 then ((zeroF, false, ⟨fi, fs, fcd⟩), D.drop at', ⟨fi, fs, fcd⟩) else if fi = true then ((zeroF, false, ⟨fi, fs, fcd⟩), (D.drop at').drop en, X) else if knownB gf.k = true then ((gf, true, ⟨false, 0, 0⟩), (D.drop at').drop en, X) else nextR most ((D.drop at').drop en) X) := hnx
    have HEN : Hid (er = 0 → 9 ≤ en ∧ en ≤ n - at') := fun he => by
      have := (parse_more (B := D.drop at') (most := most) (by rw [hu]; exact he)).1
      rw [hu, List.length_drop, HDN.out] at this
      exact this
    have HLT : Hid (g < w.heap.size) := HR.out.2.1.lt
    have HWZ : Hid (w.heap.size + 3 ≤ wr.heap.size) := by have := lt_of_heap HR.out.2.1.bx; show _ ≤ _; omega
    have HFR0 : Hid (Fr (fun k => k = g) w wr) := HR.out.2.1.fr
    clear hnx hu hgk
    by_cases her : er = 0
    case neg =>
      have HN : Hid (¬ er = 0) := her
      have HE : Hid (out = ((zeroF, false, ⟨false, 0, 0⟩), D.drop at', X)) := by show _ = _; rw [HNX.out, if_pos her]
      clear her
      go_wp2_with (first
        | (go_at_call 46; refine K1.mono ?_; rintro e w1 ⟨hf1, ht1, -⟩; obtain ⟨rfl, hr1⟩ := ht1 HN.out; have S1 : Hid (FdS w W g most (.slice a n c) at' X w1) := HR.out.2.1.keep hr1 hf1; clear hf1 ht1 hr1 K1)
        | (refine wpList_storeB rfl 36 (.tmp 6) (.tmp 14) rfl w1.heap.size #[.int .i64 0, .int .i64 0, .int .i64 0, .slice none 0 0, .int .i64 0, .int .u32 0, .int .i64 0, .int .i64 0, .int .i64 0, .bool false, .int .i64 0, .slice none 0 0] #[.int .i64 0, .int .i64 0, .int .i64 0, .slice none 0 0, .int .i64 0, .int .u32 0, .int .i64 0, .int .i64 0, .int .i64 0, .bool false, .int .i64 0, .slice none 0 0] 36 rfl rfl (past_at _ (heap_alloc_new w1 _)) rfl (by kernel_rfl) (by simp [Value.oneCell']) ?_; intro w2 H2 G2)
        | (refine wpList_storeB rfl 38 (.tmp 7) (.tmp 15) rfl (w1.heap.size + 1) #[.bool false, .int .i64 0, .int .i64 0] #[.bool false, .int .i64 0, .int .i64 0] 38 rfl rfl ((G2.out.block _ (by simp) (by omega)).trans (last_at _ (by simp))) rfl (by kernel_rfl) (by simp [Value.oneCell']) ?_; intro w3 H3 G3; refine Hid.out ?_))
      unfold Hid
      have FF3 : Hid (Fr (fun _ => False) w1 w3) := ((((Fr.refl (fun k => k = w1.heap.size ∨ k = w1.heap.size + 1) _).alloc _).alloc _).trans ((G2.out.mono (fun _ _ e => .inl e)).trans (G3.out.mono (fun _ _ e => .inr e)))).mono (fun k hk e => by omega)
      have A3 : Hid (w3.heap[w1.heap.size]? = some (.cells #[.int .i64 0, .int .i64 0, .int .i64 0, .slice none 0 0, .int .i64 0, .int .u32 0, .int .i64 0, .int .i64 0, .int .i64 0, .bool false, .int .i64 0, .slice none 0 0] 36 (0, 0))) := (G3.out.block _ (lt_of_heap H2.out) (by omega)).trans H2.out
      have B3 : Hid (w3.heap[w1.heap.size + 1]? = some (.cells #[.bool false, .int .i64 0, .int .i64 0] 38 (0, 0))) := H3.out
      clear H2 G2 H3 G3
      have S3 : Hid (FdS w W g most (.slice a n c) at' X w3) := S1.out.keep (S1.out.rd.fr FF3.out id) (FF3.out.mono (fun _ _ e => e.elim))
      go_wp2_with (first
        | (refine wpList_storeB rfl 36 (.tmp 2) (.tmp 31) rfl w.heap.size #[.int .i64 0, .int .i64 0, .int .i64 0, .slice none 0 0, .int .i64 0, .int .u32 0, .int .i64 0, .int .i64 0, .int .i64 0, .bool false, .int .i64 0, .slice none 0 0] #[.int .i64 0, .int .i64 0, .int .i64 0, .slice none 0 0, .int .i64 0, .int .u32 0, .int .i64 0, .int .i64 0, .int .i64 0, .bool false, .int .i64 0, .slice none 0 0] 36 rfl rfl S3.out.r1 rfl (by kernel_rfl) (by simp [Value.oneCell']) ?_; intro w5 H5 G5)
        | (refine wpList_storeB rfl 38 (.tmp 4) (.tmp 32) rfl (w.heap.size + 1) #[.bool false, .int .i64 0, .int .i64 0] #[.bool false, .int .i64 0, .int .i64 0] 38 rfl rfl ((G5.out.block _ (lt_of_heap S3.out.r2) (by omega)).trans S3.out.r2) rfl (by kernel_rfl) (by simp [Value.oneCell']) ?_; intro w6 H6 G6))
      try simp only [Exit.jump]
      obtain ⟨r0, r1, r2, r3, r4, r5, r6, r7, r8, r9, r10, r11⟩ := cells12 ((G6.out.block _ (lt_of_heap H5.out) (by omega)).trans H5.out)
      obtain ⟨s0, s1, s2⟩ := cells3 H6.out
      have FALL : Fr (fun k => k = w.heap.size ∨ k = w.heap.size + 1) w3 w6 := (G5.out.mono (fun _ _ e => .inl e)).trans (G6.out.mono (fun _ _ e => .inr e))
      refine bodyPost_ret (v := .tuple #[.agg #[.int .i64 0, .int .i64 0, .int .i64 0, .slice none 0 0, .int .i64 0, .int .u32 0, .int .i64 0, .int .i64 0, .int .i64 0, .bool false, .int .i64 0, .slice none 0 0], .bool false, .agg #[.bool false, .int .i64 0, .int .i64 0]]) (by simp [results, Try.results22, go_sem, r0, r1, r2, r3, r4, r5, r6, r7, r8, r9, r10, r11, s0, s1, s2]) rfl ?_
      rw [HE.out]
      refine ⟨none, 0, none, 0, at', rfl, SrcAt.nil _ _, SetsAt.nil _, fun ad e => (by cases e), fun ad e => (by cases e), S3.out.rd.fr FALL (by have := HLT.out; omega), by rw [HDN.out]; have := HR.out.1; omega, rfl, ?_⟩
      exact ((S3.out.fr.mono (T := fun k => k = g ∨ k = w.heap.size ∨ k = w.heap.size + 1) (fun _ _ e => .inl e)).trans (FALL.mono (fun _ _ e => .inr e))).mono (fun k hk e => by omega)
    case pos =>
      subst her
      have hen := HEN.out rfl
      have hnn := HNX.out
      rw [if_neg (by simp)] at hnn
      have HNX : Hid (out = if fi = true ∧ fs = 0 then ((zeroF, false, ⟨fi, fs, fcd⟩), D.drop at', ⟨fi, fs, fcd⟩) else if fi = true then ((zeroF, false, ⟨fi, fs, fcd⟩), (D.drop at').drop en, X) else if knownB gf.k = true then ((gf, true, ⟨false, 0, 0⟩), (D.drop at').drop en, X) else nextR most ((D.drop at').drop en) X) := hnn
      clear hnn
      obtain ⟨RT, hRT⟩ : ∃ RT : World → Option Addr → Nat → Option Addr → Nat → Prop, RT = fun w1 p cp q cq => Fr (fun k => k = g) wr w1 ∧ SrcAt w1 p gf.X ∧ SetsAt w1 q cq gf.Y ∧ (∀ ad, p = some ad → 0 < gf.X.length → wr.heap.size ≤ ad.block) ∧ (∀ ad, q = some ad → 0 < gf.Y.length → wr.heap.size ≤ ad.block) ∧ RdC w1 g most (.slice a n c) (if fi = true ∧ fs = 0 then at' else at' + en) (if fi = true ∧ fs = 0 then ⟨fi, fs, fcd⟩ else X) := ⟨_, rfl⟩
      have HRT : Hid (∀ w1 p cp q cq, RT w1 p cp q cq = (Fr (fun k => k = g) wr w1 ∧ SrcAt w1 p gf.X ∧ SetsAt w1 q cq gf.Y ∧ (∀ ad, p = some ad → 0 < gf.X.length → wr.heap.size ≤ ad.block) ∧ (∀ ad, q = some ad → 0 < gf.Y.length → wr.heap.size ≤ ad.block) ∧ RdC w1 g most (.slice a n c) (if fi = true ∧ fs = 0 then at' else at' + en) (if fi = true ∧ fs = 0 then ⟨fi, fs, fcd⟩ else X))) := fun w1 p cp q cq => by rw [hRT]
      have K1 : Calls Try.prog 46 #[.pointer (some ⟨w.heap.size + 2, 0, none⟩)] wr fun e w1 => ∃ p cp q cq, e = .returned (.tuple #[.agg #[.int .i64 gf.k, .int .i64 gf.fl, .int .i64 gf.st, .slice p gf.X.length cp, .int .i64 gf.pad, .int .u32 gf.code, .int .i64 gf.last, .int .i64 gf.inc, .int .i64 gf.dep, .bool gf.only, .int .i64 gf.wt, .slice q gf.Y.length cq], .agg #[.bool fi, .int .i64 fs, .int .i64 fcd], .bool true]) ∧ RT w1 p cp q cq := K1.mono (by rintro e w1 ⟨hf1, -, ht1⟩; obtain ⟨p, cp, q, cq, rfl, hs1, hy1, hp1, hq1, hr1⟩ := ht1 rfl; exact ⟨p, cp, q, cq, rfl, by rw [HRT.out]; exact ⟨hf1, hs1, hy1, hp1, hq1, hr1⟩⟩)
      clear hRT
      cases fi
      case true =>
        go_wp2_with (first
          | (go_at_call 46; refine K1.mono ?_; rintro e w1 ⟨p, cp, q, cq, rfl, t1⟩; have T1 : Hid (RT w1 p cp q cq) := t1; clear t1 K1)
          | (refine wpList_storeB rfl 36 (.tmp 6) (.tmp 14) rfl w1.heap.size #[.int .i64 0, .int .i64 0, .int .i64 0, .slice none 0 0, .int .i64 0, .int .u32 0, .int .i64 0, .int .i64 0, .int .i64 0, .bool false, .int .i64 0, .slice none 0 0] #[.int .i64 gf.k, .int .i64 gf.fl, .int .i64 gf.st, .slice p gf.X.length cp, .int .i64 gf.pad, .int .u32 gf.code, .int .i64 gf.last, .int .i64 gf.inc, .int .i64 gf.dep, .bool gf.only, .int .i64 gf.wt, .slice q gf.Y.length cq] 36 rfl rfl (past_at _ (heap_alloc_new w1 _)) rfl (by kernel_rfl) (by simp [Value.oneCell']) ?_; intro w2 H2 G2)
          | (refine wpList_storeB rfl 38 (.tmp 7) (.tmp 15) rfl (w1.heap.size + 1) #[.bool false, .int .i64 0, .int .i64 0] #[.bool true, .int .i64 fs, .int .i64 fcd] 38 rfl rfl ((G2.out.block _ (by simp) (by omega)).trans (last_at _ (by simp))) rfl (by kernel_rfl) (by simp [Value.oneCell']) ?_; intro w3 H3 G3; refine Hid.out ?_))
        unfold Hid
        have TT := T1.out
        rw [HRT.out] at TT
        obtain ⟨hf1, hs1, hy1, hp1, hq1, hr1⟩ := TT
        have FF3 : Hid (Fr (fun _ => False) w1 w3) := ((((Fr.refl (fun k => k = w1.heap.size ∨ k = w1.heap.size + 1) _).alloc _).alloc _).trans ((G2.out.mono (fun _ _ e => .inl e)).trans (G3.out.mono (fun _ _ e => .inr e)))).mono (fun k hk e => by omega)
        have A3 : Hid (w3.heap[w1.heap.size]? = some (.cells #[.int .i64 gf.k, .int .i64 gf.fl, .int .i64 gf.st, .slice p gf.X.length cp, .int .i64 gf.pad, .int .u32 gf.code, .int .i64 gf.last, .int .i64 gf.inc, .int .i64 gf.dep, .bool gf.only, .int .i64 gf.wt, .slice q gf.Y.length cq] 36 (0, 0))) := (G3.out.block _ (lt_of_heap H2.out) (by omega)).trans H2.out
        have B3 : Hid (w3.heap[w1.heap.size + 1]? = some (.cells #[.bool true, .int .i64 fs, .int .i64 fcd] 38 (0, 0))) := H3.out
        have HS1 : Hid (wr.heap.size ≤ w1.heap.size) := hf1.size
        obtain ⟨at2, X2, hr2, hat2, ho2⟩ : ∃ at2 X2, RdC w1 g most (.slice a n c) at2 X2 ∧ at2 ≤ n ∧ out = ((zeroF, false, ⟨true, fs, fcd⟩), D.drop at2, X2) := by
          by_cases hs0 : fs = 0
          · rw [if_pos (by simp [hs0]), if_pos (by simp [hs0])] at hr1; exact ⟨_, _, hr1, by omega, by rw [HNX.out, if_pos (by simp [hs0])]⟩
          · rw [if_neg (by simp [hs0]), if_neg (by simp [hs0])] at hr1; exact ⟨_, _, hr1, by omega, by rw [HNX.out, if_neg (by simp [hs0]), if_pos (by simp), List.drop_drop]⟩
        have S3 : Hid (FdS w W g most (.slice a n c) at2 X2 w3) := (HR.out.2.1.keep hr2 hf1).keep (hr2.fr FF3.out id) (FF3.out.mono (fun _ _ e => e.elim))
        have HO2 : Hid (out = ((zeroF, false, ⟨true, fs, fcd⟩), D.drop at2, X2)) := ho2
        clear H2 G2 H3 G3 hf1 hs1 hy1 hp1 hq1 hr1 hr2 ho2
        obtain ⟨e0, e1, e2⟩ := cells3 B3.out
        go_wp2_with (fail)
        clear e0 e1 e2
        refine wp_region_held_drew (S := fun w2 => w2.heap[w1.heap.size + 1]? = some (.cells #[.bool true, .int .i64 fs, .int .i64 fcd] 38 (0, 0))) (by kernel_rfl) B3.out (fun hHeld => ?_)
        refine wpAnyH_take (i := 0) (oi := _) (v := .agg #[.int .i64 0, .int .i64 0, .int .i64 0, .slice none 0 0, .int .i64 0, .int .u32 0, .int .i64 0, .int .i64 0, .int .i64 0, .bool false, .int .i64 0, .slice none 0 0]) rfl (by kernel_rfl) (by kernel_rfl) (by kernel_rfl) (fun _ _ _ h => h) (Or.inl ⟨by kernel_rfl, fun w2 hw => by go_simp⟩) hHeld ?_
        refine wpAnyH_take (i := 1) (oi := _) (v := .agg #[.bool true, .int .i64 fs, .int .i64 fcd]) rfl (by kernel_rfl) (by kernel_rfl) (by kernel_rfl) (fun _ _ _ h => h) (Or.inl ⟨by kernel_rfl, fun w2 hw => by obtain ⟨d0, d1, d2⟩ := cells3 hw; go_simp⟩) hHeld ?_
        simp only [Act.put, List.getElem_toArray, List.getElem_cons_succ, List.getElem_cons_zero, List.setIfInBounds_toArray, List.set_cons_zero, List.set_cons_succ]
        have hz : w.heap.size + 3 ≤ w1.heap.size := by have := HWZ.out; have := HS1.out; omega
        refine wpAnyH_ready (rs := [2]) (by kernel_rfl) (by simp) ?_
        refine AllReadyH.cons rfl (fun K hK => ?_) AllReadyH.nil
        refine stepR_storeB rfl rfl 36 (.tmp 2) (.tmp 23) rfl w.heap.size #[.int .i64 0, .int .i64 0, .int .i64 0, .slice none 0 0, .int .i64 0, .int .u32 0, .int .i64 0, .int .i64 0, .int .i64 0, .bool false, .int .i64 0, .slice none 0 0] #[.int .i64 0, .int .i64 0, .int .i64 0, .slice none 0 0, .int .i64 0, .int .u32 0, .int .i64 0, .int .i64 0, .int .i64 0, .bool false, .int .i64 0, .slice none 0 0] 36 rfl rfl S3.out.r1 rfl (by kernel_rfl) (by simp [Value.oneCell']) ?_
        intro w5 H5 G5
        refine hK.out _ _ ((G5.out.block _ (lt_of_heap hHeld) (by omega)).trans hHeld) (fun hHeld2 => ?_)
        clear hK K
        refine wpAnyH_ready (rs := [3]) (by kernel_rfl) (by simp) ?_
        refine AllReadyH.cons rfl (fun K hK => ?_) AllReadyH.nil
        go_simp
        refine hK.out _ _ hHeld2 (fun _ => ?_)
        clear hK K
        refine wpAnyH_ready (rs := [4]) (by kernel_rfl) (by simp) ?_
        refine AllReadyH.cons rfl (fun K hK => ?_) AllReadyH.nil
        refine stepR_storeB rfl rfl 38 (.tmp 4) (.tmp 24) rfl (w.heap.size + 1) #[.bool false, .int .i64 0, .int .i64 0] #[.bool true, .int .i64 fs, .int .i64 fcd] 38 rfl rfl ((G5.out.block _ (lt_of_heap S3.out.r2) (by omega)).trans S3.out.r2) rfl (by kernel_rfl) (by simp [Value.oneCell']) ?_
        intro w6 H6 G6
        refine hK.out _ _ ((G6.out.block _ (lt_of_heap hHeld2) (by omega)).trans hHeld2) (fun _ => ?_)
        clear hK K
        refine wpAnyH_done (by kernel_rfl) ?_ _
        go_wp2_with (fail)
        try simp only [Exit.jump]
        obtain ⟨r0, r1, r2, r3, r4, r5, r6, r7, r8, r9, r10, r11⟩ := cells12 ((G6.out.block _ (lt_of_heap H5.out) (by omega)).trans H5.out)
        obtain ⟨s0, s1, s2⟩ := cells3 H6.out
        have FALL : Fr (fun k => k = w.heap.size ∨ k = w.heap.size + 1) w3.drew w6 := (G5.out.mono (fun _ _ e => .inl e)).trans (G6.out.mono (fun _ _ e => .inr e))
        refine bodyPost_ret (v := .tuple #[.agg #[.int .i64 0, .int .i64 0, .int .i64 0, .slice none 0 0, .int .i64 0, .int .u32 0, .int .i64 0, .int .i64 0, .int .i64 0, .bool false, .int .i64 0, .slice none 0 0], .bool false, .agg #[.bool true, .int .i64 fs, .int .i64 fcd]]) (by simp [results, Try.results22, go_sem, r0, r1, r2, r3, r4, r5, r6, r7, r8, r9, r10, r11, s0, s1, s2]) rfl ?_
        rw [HO2.out]
        refine ⟨none, 0, none, 0, at2, rfl, SrcAt.nil _ _, SetsAt.nil _, fun ad e => (by cases e), fun ad e => (by cases e), (S3.out.rd.fr (((Fr.refl _ _).drew).trans FALL) (by have := HLT.out; omega)), by rw [HDN.out]; exact hat2, rfl, ?_⟩
        exact ((S3.out.fr.mono (T := fun k => k = g ∨ k = w.heap.size ∨ k = w.heap.size + 1) (fun _ _ e => .inl e)).trans (((Fr.refl _ _).drew).trans (FALL.mono (fun _ _ e => .inr e)))).mono (fun k hk e => by omega)
      case false =>
        go_wp2_with (first
          | (go_at_call 46; refine K1.mono ?_; rintro e w1 ⟨p, cp, q, cq, rfl, t1⟩; have T1 : Hid (RT w1 p cp q cq) := t1; clear t1 K1)
          | (refine wpList_storeB rfl 36 (.tmp 6) (.tmp 14) rfl w1.heap.size #[.int .i64 0, .int .i64 0, .int .i64 0, .slice none 0 0, .int .i64 0, .int .u32 0, .int .i64 0, .int .i64 0, .int .i64 0, .bool false, .int .i64 0, .slice none 0 0] #[.int .i64 gf.k, .int .i64 gf.fl, .int .i64 gf.st, .slice p gf.X.length cp, .int .i64 gf.pad, .int .u32 gf.code, .int .i64 gf.last, .int .i64 gf.inc, .int .i64 gf.dep, .bool gf.only, .int .i64 gf.wt, .slice q gf.Y.length cq] 36 rfl rfl (past_at _ (heap_alloc_new w1 _)) rfl (by kernel_rfl) (by simp [Value.oneCell']) ?_; intro w2 H2 G2)
          | (refine wpList_storeB rfl 38 (.tmp 7) (.tmp 15) rfl (w1.heap.size + 1) #[.bool false, .int .i64 0, .int .i64 0] #[.bool false, .int .i64 fs, .int .i64 fcd] 38 rfl rfl ((G2.out.block _ (by simp) (by omega)).trans (last_at _ (by simp))) rfl (by kernel_rfl) (by simp [Value.oneCell']) ?_; intro w3 H3 G3; refine Hid.out ?_))
        unfold Hid
        have TT := T1.out
        rw [HRT.out] at TT
        obtain ⟨hf1, hs1, hy1, hp1, hq1, hr1⟩ := TT
        have FF3 : Hid (Fr (fun _ => False) w1 w3) := ((((Fr.refl (fun k => k = w1.heap.size ∨ k = w1.heap.size + 1) _).alloc _).alloc _).trans ((G2.out.mono (fun _ _ e => .inl e)).trans (G3.out.mono (fun _ _ e => .inr e)))).mono (fun k hk e => by omega)
        have A3 : Hid (w3.heap[w1.heap.size]? = some (.cells #[.int .i64 gf.k, .int .i64 gf.fl, .int .i64 gf.st, .slice p gf.X.length cp, .int .i64 gf.pad, .int .u32 gf.code, .int .i64 gf.last, .int .i64 gf.inc, .int .i64 gf.dep, .bool gf.only, .int .i64 gf.wt, .slice q gf.Y.length cq] 36 (0, 0))) := (G3.out.block _ (lt_of_heap H2.out) (by omega)).trans H2.out
        have B3 : Hid (w3.heap[w1.heap.size + 1]? = some (.cells #[.bool false, .int .i64 fs, .int .i64 fcd] 38 (0, 0))) := H3.out
        have HS1 : Hid (wr.heap.size ≤ w1.heap.size) := hf1.size
        rw [if_neg (by simp), if_neg (by simp)] at hr1
        have S3 : Hid (FdS w W g most (.slice a n c) (at' + en) X w3) := (HR.out.2.1.keep hr1 hf1).keep (hr1.fr FF3.out id) (FF3.out.mono (fun _ _ e => e.elim))
        have P3 : Hid (SrcAt w3 p gf.X ∧ SetsAt w3 q cq gf.Y ∧ (∀ ad, p = some ad → 0 < gf.X.length → wr.heap.size ≤ ad.block) ∧ (∀ ad, q = some ad → 0 < gf.Y.length → wr.heap.size ≤ ad.block)) := ⟨hs1.oldF FF3.out, hy1.later FF3.out, hp1, hq1⟩
        have HO2 : Hid (out = if knownB gf.k = true then ((gf, true, ⟨false, 0, 0⟩), D.drop (at' + en), X) else nextR most (D.drop (at' + en)) X) := by show _ = _; rw [HNX.out, if_neg (by simp), if_neg (by simp), List.drop_drop]
        clear H2 G2 H3 G3 hf1 hs1 hy1 hp1 hq1 hr1
        obtain ⟨e0, e1, e2⟩ := cells3 B3.out
        obtain ⟨d0, d1, d2, d3, d4, d5, d6, d7, d8, d9, d10, d11⟩ := cells12 A3.out
        have KK := fKnown_at gf.k w3
        cases hk : knownB gf.k
        case true =>
          rw [hk] at KK
          have HO3 : Hid (out = ((gf, true, ⟨false, 0, 0⟩), D.drop (at' + en), X)) := by show _ = _; rw [HO2.out, if_pos hk]
          clear hk
          go_wp2_with (first
            | (go_at_call 31; refine KK.mono ?_; clear KK; rintro e w' ⟨rfl, rfl⟩)
            | (refine wpList_storeB rfl 36 (.tmp 2) (.tmp 29) rfl w.heap.size #[.int .i64 0, .int .i64 0, .int .i64 0, .slice none 0 0, .int .i64 0, .int .u32 0, .int .i64 0, .int .i64 0, .int .i64 0, .bool false, .int .i64 0, .slice none 0 0] #[.int .i64 gf.k, .int .i64 gf.fl, .int .i64 gf.st, .slice p gf.X.length cp, .int .i64 gf.pad, .int .u32 gf.code, .int .i64 gf.last, .int .i64 gf.inc, .int .i64 gf.dep, .bool gf.only, .int .i64 gf.wt, .slice q gf.Y.length cq] 36 rfl rfl S3.out.r1 rfl (by kernel_rfl) (by simp [Value.oneCell']) ?_; intro w5 H5 G5)
            | (refine wpList_storeB rfl 38 (.tmp 4) (.tmp 30) rfl (w.heap.size + 1) #[.bool false, .int .i64 0, .int .i64 0] #[.bool false, .int .i64 0, .int .i64 0] 38 rfl rfl ((G5.out.block _ (lt_of_heap S3.out.r2) (by omega)).trans S3.out.r2) rfl (by kernel_rfl) (by simp [Value.oneCell']) ?_; intro w6 H6 G6))
          try simp only [Exit.jump]
          obtain ⟨r0, r1, r2, r3, r4, r5, r6, r7, r8, r9, r10, r11⟩ := cells12 ((G6.out.block _ (lt_of_heap H5.out) (by omega)).trans H5.out)
          obtain ⟨s0, s1, s2⟩ := cells3 H6.out
          have FALL : Fr (fun k => k = w.heap.size ∨ k = w.heap.size + 1) w3 w6 := (G5.out.mono (fun _ _ e => .inl e)).trans (G6.out.mono (fun _ _ e => .inr e))
          refine bodyPost_ret (v := .tuple #[.agg #[.int .i64 gf.k, .int .i64 gf.fl, .int .i64 gf.st, .slice p gf.X.length cp, .int .i64 gf.pad, .int .u32 gf.code, .int .i64 gf.last, .int .i64 gf.inc, .int .i64 gf.dep, .bool gf.only, .int .i64 gf.wt, .slice q gf.Y.length cq], .bool true, .agg #[.bool false, .int .i64 0, .int .i64 0]]) (by simp [results, Try.results22, go_sem, r0, r1, r2, r3, r4, r5, r6, r7, r8, r9, r10, r11, s0, s1, s2]) rfl ?_
          rw [HO3.out]
          refine ⟨p, cp, q, cq, at' + en, rfl, ?_, ?_, fun ad e hl => (by have := P3.out.2.2.1 ad e hl; have := HWZ.out; omega), fun ad e hl => (by have := P3.out.2.2.2 ad e hl; have := HWZ.out; omega), S3.out.rd.fr FALL (by have := HLT.out; omega), by rw [HDN.out]; omega, rfl, ?_⟩
          · exact P3.out.1.fr FALL (fun ad e hl e2 => by have := P3.out.2.2.1 ad e hl; have := HWZ.out; omega)
          · exact P3.out.2.1.fr FALL (fun ad e hl e2 => by have := P3.out.2.2.2 ad e hl; have := HWZ.out; omega)
          · exact ((S3.out.fr.mono (T := fun k => k = g ∨ k = w.heap.size ∨ k = w.heap.size + 1) (fun _ _ e => .inl e)).trans (FALL.mono (fun _ _ e => .inr e))).mono (fun k hk e => by omega)
        case false =>
          rw [hk] at KK
          have HO3 : Hid (nextR most (D.drop (at' + en)) X = out) := by show _ = _; rw [HO2.out, if_neg (by rw [hk]; simp)]
          clear hk
          have HAT : Hid (at' + en ≤ n ∧ 0 < en ∧ at' ≤ n) := ⟨by omega, by omega, by omega⟩
          go_wp2_with (go_at_call 31; refine KK.mono ?_; clear KK; rintro e w' ⟨rfl, rfl⟩)
          go_roundg (n - (at' + en))
          case rel => exact ⟨at' + en, by have := HAT.out; omega, S3.out, HO3.out⟩
          case measure => have := HAT.out; have := HR.out.1; omega
end Go.Proofs.Ytikaefjhmgcidaa
