/- The document's pump: Tail, Done, Next, Last, Cut. -/
import Derived.Test.YtibiiagdhdmpiaaUj
import Derived.Test.YtibiiagdhdmpiaaUf
namespace Go.Proofs.Ytibiiagdhdmpiaa
open Go.RowKit
set_option linter.unusedVariables false
set_option maxRecDepth 100000
set_option maxHeartbeats 4000000

section
variable (O : Nat → Prop) (c : Nat) (L : List UInt8) (lim : Nat) (op : Bool) (T : Option (List Hd)) (w : World)
theorem ruTail_as (q : Option Addr) (k : Nat) (l : List Hd) (h : RuAt w O c L lim op T) (hl : HL w q k l) (hq : ∀ a, q = some a → 0 < l.length → ¬ O a.block) :
    Calls Try.prog 29 #[.pointer (some ⟨c, 0, none⟩), .slice q l.length k] w fun e w' => e = .returned (.int .i64 (shutE op)) ∧ RuS w w' O c L lim false (tailT op T l) := by
  have H0 : Hid (RuAt w O c L lim op T) := h
  obtain ⟨⟨r, v, tv, hx⟩, ob, lt, few, tl⟩ := h
  obtain ⟨c0, c1, c2, c3⟩ := hx.cells
  have z1 : w.frozen? ⟨c, 1, none⟩ = false := frozen_of_heap hx.blk
  have HX : Hid (RuX w O c r v tv L lim op T) := hx
  obtain ⟨N, hN⟩ : ∃ N, l.length = N := ⟨_, rfl⟩
  cases op
  · rw [hN]
    clear hx hN
    go_enter Try.func29, Try.ntmps29
    go_wp2
    go_ret
    exact ⟨rfl, RuS.same H0.out (Fr.refl _ _)⟩
  · obtain ⟨W, hW⟩ : ∃ W, w.setCell ⟨c, 1, none⟩ (.bool true) = W := ⟨_, rfl⟩
    have f1 : Fr (fun k => k = c) w W := by rw [← hW]; exact Fr.setB (Fr.refl _ _) _ _
    have hb1 : W.heap[c]? = some (.cells #[.pointer (some ⟨r, 0, none⟩), .bool true, tv, .bool T.isSome] 40 (0, 0)) := by rw [← hW]; exact setCell_heap (i := 1) (.bool true) hx.blk
    have zW : W.heap.size = w.heap.size := by rw [← hW]; simp [World.setCell]
    have hl1 : HL W q k l := hl.fr f1 (fun a ha h0 e => hq a ha h0 (by rw [e]; exact ob))
    obtain ⟨q2, k2, w2, hr2, hl2, bel2, new2⟩ := copy_run hl1
    have f2 : Fr (fun _ => False) W w2 := Fr.of_below bel2
    have hb2 : w2.heap[c]? = some (.cells #[.pointer (some ⟨r, 0, none⟩), .bool true, tv, .bool T.isSome] 40 (0, 0)) := (f2.block c (lt_of_heap hb1) id).trans hb1
    obtain ⟨d0, d1, d2, d3⟩ := cell4 hb2
    have y2 : w2.frozen? ⟨c, 2, none⟩ = false := frozen_of_heap hb2
    have y3 : w2.frozen? ⟨c, 3, none⟩ = false := frozen_of_heap hb2
    have HR2 : Hid ((Builtin.append_ #[32, 32] 32 #[.slice (some ⟨W.heap.size, 0, none⟩) 0 0, .slice q N k]).run Try.prog (W.alloc (.cells #[] 71)) = .ok (.slice q2 N k2) w2) := by rw [← hN]; exact hr2
    have HL2 : Hid (HL w2 q2 k2 l) := hl2
    have HB2 : Hid (w2.heap[c]? = some (.cells #[.pointer (some ⟨r, 0, none⟩), .bool true, tv, .bool T.isSome] 40 (0, 0))) := hb2
    have HN2 : Hid (∀ a, q2 = some a → w.heap.size ≤ a.block) := fun a ha => by have := new2 a ha; omega
    have HF2 : Hid (Fr (fun k => k = c) w w2) := f1.trans (f2.mono (fun _ _ e => e.elim))
    have HNN : Hid (l.length = N) := hN
    rw [hN]
    clear hr2 hl2 hb2 hb1 new2 hN hl1 f1 f2 hx bel2 hl hq zW
    go_enter Try.func29, Try.ntmps29
    go_upto_region 4 with (fail)
    (try rw [hW])
    clear hW c0 c1 c2 c3 z1
    go_wp2_with (at_builtin; refine wpList_append_run rfl (.tmp 13) (.tmp 14) 32 rfl _ _ _ (by go_simp) (by go_simp) HR2.out ?_)
    go_ret
    obtain ⟨w4, hw4⟩ : ∃ w4, w4 = (w2.setCell ⟨c, 2, none⟩ (.slice q2 N k2)).setCell ⟨c, 3, none⟩ (.bool true) := ⟨_, rfl⟩
    rw [← hw4]
    have f4 : Fr (fun k => k = c) w2 w4 := by rw [hw4]; exact Fr.setB (Fr.setB (Fr.refl _ _) _ _) _ _
    have hb4 : w4.heap[c]? = some (.cells #[.pointer (some ⟨r, 0, none⟩), .bool true, .slice q2 N k2, .bool true] 40 (0, 0)) := by rw [hw4]; exact setCell_heap _ (setCell_heap _ HB2.out)
    have F4 : Fr (fun k => k = c) w w4 := HF2.out.trans (f4.mono (fun k hk e => e))
    have hl4 : HL w4 q2 k2 l := HL2.out.fr f4 (fun a ha h0 e => HL2.out.off HB2.out (four_no_text (fun s e => by cases e) (fun s e => by cases e) (fun s e => by obtain ⟨q3, k3, rfl, -⟩ := HX.out.tail.form; cases e) (fun s e => by cases e)) a ha h0 e)
    have FO : Fr O w w4 := F4.mono (fun k _ e => by subst e; exact ob)
    refine ⟨rfl, RuS.grown ⟨⟨r, v, .slice q2 N k2, HX.out.stored (op' := false) (T' := some l) (O' := Grow O w w4) F4 hb4 ⟨q2, k2, by rw [HNN.out], hl4, fun a ha h0 => .inr ⟨HN2.out a ha, hl4.lt a ha h0⟩⟩ (fun q n k a e ha h0 e2 => ?_) (fun k hk => .inl hk)⟩, .inl ob, PuAt.grow lt FO.size, few, fun _ => rfl⟩ FO⟩
    cases e
    have h1 := HX.out.ring.2.1.lt _ e2
    have h2 := HN2.out a ha
    omega
theorem ruDone_as (n : Int) (h : RuAt w O c L lim op T) : Calls Try.prog 27 #[.pointer (some ⟨c, 0, none⟩), .int .i64 n] w fun e w' => e = .returned (.int .i64 (doneE L n)) ∧ RuS w w' O c (doneL L n) lim op T := by
  have H0 : Hid (RuAt w O c L lim op T) := h
  obtain ⟨⟨r, v, tv, hx⟩, ob, lt, few, tl⟩ := h
  obtain ⟨c0, c1, c2, c3⟩ := hx.cells
  obtain ⟨a, k, hv⟩ := hx.own_form
  have d0 := (cell2 hx.ring.1).1
  rw [hv] at d0
  obtain ⟨N, hN⟩ : ∃ N, L.length = N := ⟨_, rfl⟩
  have HX : Hid (RuX w O c r v tv L lim op T) := hx
  by_cases hn : n < 0 ∨ (L.length : Int) < n
  · rw [doneE, doneL, if_pos hn, if_pos hn]
    rw [hN] at hn d0
    clear hx hv hN
    by_cases h0 : n < 0
    · go_enter Try.func27, Try.ntmps27
      go_wp2
      go_ret
      exact ⟨rfl, RuS.same H0.out (Fr.refl _ _)⟩
    · have hn2 : (N : Int) < n := by omega
      clear hn
      go_enter Try.func27, Try.ntmps27
      go_wp2
      go_ret
      exact ⟨rfl, RuS.same H0.out (Fr.refl _ _)⟩
  · rw [doneE, doneL, if_neg hn, if_neg hn]
    have KD := rdrop r v L lim n n.toNat w hx.ring (by omega)
    have h0 : ¬ n < 0 := by omega
    have h1 : ¬ (N : Int) < n := by omega
    rw [hN] at d0
    clear hx hv hN hn
    go_enter Try.func27, Try.ntmps27
    go_wp2_with (fail)
    refine KD.mono ?_
    rintro e w2 ⟨rfl, v2, hr2, hk2, f2⟩
    obtain ⟨x2, g2⟩ := HX.out.ringed hr2 (f2.mono (fun _ _ e => .inl e)) (.inr hk2)
    have HX2 : Hid (RuX w2 (Grow O w w2) c r v2 tv (L.drop n.toNat) lim op T) := x2
    have HF2 : Hid (Fr O w w2) := g2
    clear hr2 hk2 f2 x2 g2 KD
    go_wp2
    go_ret
    exact ⟨rfl, RuS.grown ⟨⟨_, _, _, HX2.out⟩, .inl ob, PuAt.grow lt HF2.out.size, few, tl⟩ HF2.out⟩
theorem ruCut_as (h : RuAt w O c L lim op T) : Calls Try.prog 31 #[.pointer (some ⟨c, 0, none⟩)] w fun e w' => e = .returned (.tuple #[]) ∧ RuS w w' O c [] lim false none := by
  obtain ⟨⟨r, v, tv, hx⟩, ob, lt, few, tl⟩ := h
  obtain ⟨c0, c1, c2, c3⟩ := hx.cells
  have d0 := (cell2 hx.ring.1).1
  have z0 : w.frozen? ⟨r, 0, none⟩ = false := frozen_of_heap hx.ring.1
  obtain ⟨n1, n2⟩ := hx.ne
  obtain ⟨W, hW⟩ : ∃ W, w.setCell ⟨r, 0, none⟩ (.slice none 0 0) = W := ⟨_, rfl⟩
  have f1 : Fr (fun k => k = r) w W := by rw [← hW]; exact Fr.setB (Fr.refl _ _) _ _
  have hr1 : RefIs W r (.slice none 0 0) [] lim := ⟨by rw [← hW]; exact setCell_heap (i := 0) (.slice none 0 0) hx.ring.1, OwnAt.nil _ _, by simp [Value.ownBlock], Nat.zero_le _, hx.ring.2.2.2.2⟩
  have hb1 : W.heap[c]? = some (.cells #[.pointer (some ⟨r, 0, none⟩), .bool (!op), tv, .bool T.isSome] 40 (0, 0)) := (f1.block c (lt_of_heap hx.blk) n1).trans hx.blk
  have y1 : W.frozen? ⟨c, 1, none⟩ = false := frozen_of_heap hb1
  have y2 : W.frozen? ⟨c, 2, none⟩ = false := frozen_of_heap hb1
  have y3 : W.frozen? ⟨c, 3, none⟩ = false := frozen_of_heap hb1
  obtain ⟨e0, e1, e2, e3⟩ := cell4 hb1
  have zW : W.heap.size = w.heap.size := by rw [← hW]; simp [World.setCell]
  have HB1 : Hid (W.heap[c]? = some (.cells #[.pointer (some ⟨r, 0, none⟩), .bool (!op), tv, .bool T.isSome] 40 (0, 0))) := hb1
  have HR1 : Hid (RefIs W r (.slice none 0 0) [] lim) := hr1
  have HF1 : Hid (Fr O w W) := f1.mono (fun k _ e => by subst e; exact hx.or)
  have HOR : Hid (O r) := hx.or
  have HZ : Hid (W.heap.size = w.heap.size) := zW
  clear hx hb1 hr1 f1 zW
  go_enter Try.func31, Try.ntmps31
  go_upto_region 1 with (fail)
  (try rw [hW])
  clear hW c0 c1 c2 c3 d0 z0
  go_wp2
  go_end0
  obtain ⟨w4, hw4⟩ : ∃ w4, w4 = ((W.setCell ⟨c, 1, none⟩ (.bool true)).setCell ⟨c, 2, none⟩ (.slice none 0 0)).setCell ⟨c, 3, none⟩ (.bool false) := ⟨_, rfl⟩
  rw [← hw4]
  have f4 : Fr (fun k => k = c) W w4 := by rw [hw4]; exact Fr.setB (Fr.setB (Fr.setB (Fr.refl _ _) _ _) _ _) _ _
  have hb4 : w4.heap[c]? = some (.cells #[.pointer (some ⟨r, 0, none⟩), .bool true, .slice none 0 0, .bool false] 40 (0, 0)) := by rw [hw4]; exact setCell_heap _ (setCell_heap _ (setCell_heap _ HB1.out))
  have FO : Fr O w w4 := HF1.out.trans (f4.mono (fun k _ e => by subst e; exact ob))
  refine ⟨rfl, RuS.same ⟨⟨r, .slice none 0 0, .slice none 0 0, ⟨hb4, HR1.out.fr f4 (fun e => n1 e.symm) (fun g hg => by simp [Value.ownBlock] at hg), rfl, (fun q n k a e ha h0 => by cases e; cases ha), HOR.out, fun g hg => by simp [Value.ownBlock] at hg⟩⟩, ob, fun k hk => Nat.lt_of_lt_of_le (lt k hk) FO.size, few, fun h => by cases h⟩ FO⟩
theorem ruLast_as (h : RuAt w O c L lim op T) : Calls Try.prog 30 #[.pointer (some ⟨c, 0, none⟩)] w fun e w' => ∃ q k, e = .returned (.tuple #[.slice q ((lastO L T).getD []).length k, .bool (lastO L T).isSome]) ∧ HL w' q k ((lastO L T).getD []) ∧ RuS w w' O c L lim op (lastT L T) ∧ Fr (fun k => k = c) w w' := by
  have H0 : Hid (RuAt w O c L lim op T) := h
  obtain ⟨⟨r, v, tv, hx⟩, ob, lt, few, tl⟩ := h
  obtain ⟨c0, c1, c2, c3⟩ := hx.cells
  obtain ⟨a, k, hv⟩ := hx.own_form
  have d0 := (cell2 hx.ring.1).1
  rw [hv] at d0
  have HX : Hid (RuX w O c r v tv L lim op T) := hx
  cases T with
  | none =>
    have e1 : lastO L none = none := by simp [lastO]
    have e2 : lastT L none = none := by simp [lastT]
    rw [e1, e2]
    clear hx hv e1 e2
    go_enter Try.func30, Try.ntmps30
    go_wp2
    go_ret2
    exact ⟨none, 0, rfl, HL.nil w, RuS.same H0.out (Fr.refl _ _), Fr.refl _ _⟩
  | some l =>
    by_cases hL : L = []
    · subst hL
      have e1 : lastO [] (some l) = some l := rfl
      have e2 : lastT [] (some l) = none := rfl
      rw [e1, e2]
      obtain ⟨q2, k2, rfl, hl, hq⟩ := hx.tail.form
      have z2 : w.frozen? ⟨c, 2, none⟩ = false := frozen_of_heap hx.blk
      have z3 : w.frozen? ⟨c, 3, none⟩ = false := frozen_of_heap hx.blk
      obtain ⟨N, hN⟩ : ∃ N, l.length = N := ⟨_, rfl⟩
      have hN' : (Option.getD (some l) []).length = N := hN
      rw [hN'] at c2
      have HL0 : Hid (HL w q2 k2 l) := hl
      have HNN : Hid ((Option.getD (some l) []).length = N) := hN'
      clear hx hv e1 e2 hl hq hN hN'
      go_enter Try.func30, Try.ntmps30
      go_wp2
      go_ret2
      obtain ⟨w4, hw4⟩ : ∃ w4, w4 = (w.setCell ⟨c, 2, none⟩ (.slice none 0 0)).setCell ⟨c, 3, none⟩ (.bool false) := ⟨_, rfl⟩
      rw [← hw4]
      have f4 : Fr (fun k => k = c) w w4 := by rw [hw4]; exact Fr.setB (Fr.setB (Fr.refl _ _) _ _) _ _
      have hb4 : w4.heap[c]? = some (.cells #[.pointer (some ⟨r, 0, none⟩), .bool (!op), .slice none 0 0, .bool false] 40 (0, 0)) := by rw [hw4]; exact setCell_heap _ (setCell_heap _ HX.out.blk)
      refine ⟨q2, k2, by rw [HNN.out]; rfl, HL0.out.fr f4 (fun a ha h0 e => (HX.out.tail_ne rfl a ha h0).1 e), RuS.same ⟨⟨r, v, .slice none 0 0, HX.out.stored (T' := none) f4 hb4 rfl (fun q n k a e ha h0 => by cases e; cases ha) (fun _ => id)⟩, ob, fun k hk => Nat.lt_of_lt_of_le (lt k hk) f4.size, few, fun h => by cases h⟩ (f4.mono (fun k _ e => by subst e; exact ob)), f4⟩
    · have e1 : lastO L (some l) = none := if_neg hL
      have e2 : lastT L (some l) = some l := if_neg hL
      rw [e1, e2]
      obtain ⟨N, hN⟩ : ∃ N, L.length = N := ⟨_, rfl⟩
      have hp : 0 < N := by rw [← hN]; exact List.length_pos_iff.2 hL
      have hp2 : (0 : Int) < (N : Int) := by omega
      rw [hN] at d0
      clear hx hv e1 e2 hN hL
      go_enter Try.func30, Try.ntmps30
      go_wp2
      go_ret2
      exact ⟨none, 0, rfl, HL.nil w, RuS.same H0.out (Fr.refl _ _), Fr.refl _ _⟩
theorem ruNext_as (n : Int) (m : Nat) (h : RuAt w O c L lim op T) (hm : (m : Int) = max 0 (min n L.length)) :
    Calls Try.prog 26 #[.pointer (some ⟨c, 0, none⟩), .int .i64 n] w fun e w' => ∃ a k, e = .returned (.tuple #[.slice a m k, .bool (endB m L op T)]) ∧ SrcAt w' a (L.take m) ∧ Fr (fun _ => False) w w' := by
  have H0 : Hid (RuAt w O c L lim op T) := h
  obtain ⟨⟨r, v, tv, hx⟩, ob, lt, few, tl⟩ := h
  obtain ⟨c0, c1, c2, c3⟩ := hx.cells
  obtain ⟨a, k, hv⟩ := hx.own_form
  have KP := rpeek r v L lim n m w hx.ring hm
  obtain ⟨N, hN⟩ : ∃ N, L.length = N := ⟨_, rfl⟩
  have HC : Hid (∀ w1, Fr (fun _ => False) w w1 → RuX w1 O c r (.slice a N k) tv L lim op T) := fun w1 f => by rw [← hN, ← hv]; exact hx.fr f id (fun _ _ => id)
  obtain ⟨t, ht⟩ : ∃ t, T.isSome = t := ⟨_, rfl⟩
  obtain ⟨E, hE⟩ : ∃ E, endB m L op T = E := ⟨_, rfl⟩
  have HE : Hid ((decide (m = N) && (!op && !t)) = E) := by show _ = _; rw [← hE, endB, hN, ht]
  have HT : Hid (T.isSome = t) := ht
  rw [hE]
  clear hx hm hN ht hE c1 c2 c3 hv
  go_enter Try.func26, Try.ntmps26
  go_wp2_with (fail)
  refine KP.mono ?_
  rintro e w1 ⟨a1, n1, k1, rfl, rfl, ho1, hk1, hf1⟩
  have HS1 : Hid (SrcAt w1 a1 (L.take n1)) := own_src ho1
  have HF1 : Hid (Fr (fun _ => False) w w1) := hf1
  obtain ⟨d0, d1, d2, d3⟩ := (HC.out w1 hf1).cells
  have e0 := (cell2 (HC.out w1 hf1).ring.1).1
  rw [HT.out] at d3
  clear ho1 hk1 hf1 KP c0 HC d2
  by_cases hq : n1 = N
  · have hq2 : decide ((n1 : Int) = (N : Int)) = true := decide_eq_true (by omega)
    subst hq
    cases op
    · cases t
      · go_wp2_with (fail)
        go_quiet (fail)
        go_wp2
        go_ret2
        have := HE.out
        simp at this
        subst this
        exact ⟨a1, k1, rfl, HS1.out.heap rfl, HF1.out.drewN _⟩
      · go_wp2_with (fail)
        go_quiet (fail)
        go_wp2
        go_ret2
        have := HE.out
        simp at this
        subst this
        exact ⟨a1, k1, rfl, HS1.out.heap rfl, HF1.out.drewN _⟩
    · go_wp2_with (fail)
      go_quiet (fail)
      go_wp2
      go_ret2
      have := HE.out
      simp at this
      subst this
      exact ⟨a1, k1, rfl, HS1.out.heap rfl, HF1.out.drewN _⟩
  · have hq2 : decide ((n1 : Int) = (N : Int)) = false := decide_eq_false (by omega)
    have hq3 : ((n1 : Int) == (N : Int)) = false := beq_eq_false_iff_ne.2 (by omega)
    have hq4 : decide (n1 = N) = false := decide_eq_false hq
    go_wp2_with (fail)
    go_quiet (fail)
    go_wp2
    go_ret2
    have := HE.out
    simp [hq] at this
    subst this
    exact ⟨a1, k1, rfl, HS1.out.heap rfl, HF1.out.drewN _⟩
end
end Go.Proofs.Ytibiiagdhdmpiaa
