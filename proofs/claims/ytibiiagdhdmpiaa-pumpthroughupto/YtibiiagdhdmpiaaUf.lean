/- The program's pump: Next, Cut; pumps that nobody made; awake. -/
import Derived.Test.YtibiiagdhdmpiaaUe
namespace Go.Proofs.Ytibiiagdhdmpiaa
open Go.RowKit
set_option linter.unusedVariables false
set_option maxRecDepth 100000
set_option maxHeartbeats 4000000

theorem uNext_in (O : Nat → Prop) (b : Nat) (L : List UInt8) (lim : Nat) (op : Bool) (T : Option (List Hd)) (n : Int) (m : Nat) (w : World) (h : PuAt w O b L lim op T) (hm : (m : Int) = max 0 (min n L.length)) :
    Calls Try.prog 16 #[.pointer (some ⟨b, 0, none⟩), .int .i64 n] w fun e w' => ∃ d, e = .returned (.tuple #[.slice (some ⟨d, 0, none⟩) m m, .bool (endB m L op T)]) ∧ w.heap.size ≤ d ∧ w'.heap[d]? = some (.cells (bv (L.take m)).toArray 5 (0, 0)) ∧ Fr (fun _ => False) w w' := by
  obtain ⟨⟨r, sv, tv, hx⟩, ob, lt, few, tl⟩ := h
  obtain ⟨c0, c1, c2, c3⟩ := hx.cells
  have K := umade_yes b r w c0
  have KP := peek_any r sv L lim n m w hx.2.1 hm
  obtain ⟨N, hN⟩ : ∃ N, L.length = N := ⟨_, rfl⟩
  have KL : Hid (∀ w1, Fr (fun _ => False) w w1 → Calls Try.prog 33 #[.pointer (some ⟨r, 0, none⟩)] w1 fun e w' => e = .returned (.int .i64 N) ∧ w' = w1) := fun w1 f => by
    rw [← hN]
    exact (ring_len r sv L lim w1 (hx.2.1.fr f id (fun _ _ => id))).mono (fun e w' h => ⟨h.1, h.2.symm⟩)
  have HC : Hid (∀ w1, Fr (fun _ => False) w w1 → PuX w1 O b r sv tv L lim op T) := fun w1 f => hx.fr f id (fun _ _ => id)
  obtain ⟨t, ht⟩ : ∃ t, T.isSome = t := ⟨_, rfl⟩
  obtain ⟨E, hE⟩ : ∃ E, endB m L op T = E := ⟨_, rfl⟩
  have HE : Hid ((decide (m = N) && (!op && !t)) = E) := by show _ = _; rw [← hE, endB, hN, ht]
  have HT : Hid (T.isSome = t) := ht
  rw [hE]
  clear hx hm hN ht hE c1 c2 c3
  go_enter Try.func16, Try.ntmps16
  go_wp2_with (fail)
  refine K.mono ?_
  rintro e w1 ⟨rfl, rfl⟩
  go_wp2_with (fail)
  refine KP.mono ?_
  rintro e w1 ⟨d, rfl, hd, hd1, hf1⟩
  have HD1 : Hid (w1.heap[d]? = some (.cells (bv (L.take m)).toArray 5 (0, 0))) := hd1
  have HF1 : Hid (Fr (fun _ => False) w w1) := hf1
  obtain ⟨d0, d1, d2, d3⟩ := (HC.out w1 hf1).cells
  rw [HT.out] at d2
  have KQ : Hid (∀ k, Calls Try.prog 33 #[.pointer (some ⟨r, 0, none⟩)] (w1.drewN k) fun e w' => e = .returned (.int .i64 N) ∧ w' = w1.drewN k) := fun k => KL.out (w1.drewN k) (hf1.drewN k)
  clear hd1 hf1 KP K c0 KL HC d1
  by_cases hq : m = N
  · have hq2 : decide ((m : Int) = (N : Int)) = true := decide_eq_true (by omega)
    subst hq
    cases op
    · cases t
      · go_wp2_with (fail)
        go_quiet (first | (go_at_call 33; exact Calls.quiet_of_same (KQ.out _)))
        go_wp2
        go_ret2
        have := HE.out
        simp at this
        subst this
        exact ⟨d, rfl, hd, HD1.out, HF1.out.drewN _⟩
      · go_wp2_with (fail)
        go_quiet (first | (go_at_call 33; exact Calls.quiet_of_same (KQ.out _)))
        go_wp2
        go_ret2
        have := HE.out
        simp at this
        subst this
        exact ⟨d, rfl, hd, HD1.out, HF1.out.drewN _⟩
    · go_wp2_with (fail)
      go_quiet (first | (go_at_call 33; exact Calls.quiet_of_same (KQ.out _)))
      go_wp2
      go_ret2
      have := HE.out
      simp at this
      subst this
      exact ⟨d, rfl, hd, HD1.out, HF1.out.drewN _⟩
  · have hq2 : decide ((m : Int) = (N : Int)) = false := decide_eq_false (by omega)
    have hq3 : ((m : Int) == (N : Int)) = false := beq_eq_false_iff_ne.2 (by omega)
    have hq4 : decide (m = N) = false := decide_eq_false hq
    go_wp2_with (fail)
    go_quiet (first | (go_at_call 33; exact Calls.quiet_of_same (KQ.out _)))
    go_wp2
    go_ret2
    have := HE.out
    simp [hq] at this
    subst this
    exact ⟨d, rfl, hd, HD1.out, HF1.out.drewN _⟩
theorem uCut_in (O : Nat → Prop) (b : Nat) (L : List UInt8) (lim : Nat) (op : Bool) (T : Option (List Hd)) (w : World) (h : PuAt w O b L lim op T) :
    Calls Try.prog 22 #[.pointer (some ⟨b, 0, none⟩)] w fun e w' => e = .returned (.tuple #[]) ∧ PuAt w' O b [] lim false none ∧ Fr O w w' := by
  obtain ⟨⟨r, sv, tv, hx⟩, ob, lt, few, tl⟩ := h
  obtain ⟨c0, c1, c2, c3⟩ := hx.cells
  have z3 : w.frozen? ⟨b, 3, none⟩ = false := frozen_of_heap hx.1
  have K := umade_yes b r w c0
  obtain ⟨n1, n2⟩ := hx.ne
  have HX : Hid (PuX w O b r sv tv L lim op T) := hx
  clear hx c1 c2
  go_enter Try.func22, Try.ntmps22
  go_wp2_with (fail)
  refine K.mono ?_
  rintro e w1 ⟨rfl, rfl⟩
  go_upto_region 2 with (fail)
  obtain ⟨w1, hw1⟩ : ∃ w1, w1 = w.setCell ⟨b, 3, none⟩ (.bool false) := ⟨_, rfl⟩
  have f1 : Fr (fun k => k = b) w w1 := by rw [hw1]; exact Fr.setB (Fr.refl _ _) _ _
  have zz : w1.heap.size = w.heap.size := by rw [hw1]; simp [World.setCell]
  obtain ⟨x1, x2, x3, x4, x5⟩ := HX.out
  have y1 : PuX w1 O b r sv tv L lim false T := ⟨by rw [hw1]; exact setCell_heap _ x1, x2.fr f1 (fun e => n1 e.symm) (fun g hg e => n2 (by rw [hg, e])), x3.fr_off f1 (fun k hS _ => by subst hS; exact ⟨_, _, _, x1, four_no_text (fun s e => by cases e) (fun s e => by obtain ⟨q, c, rfl, -⟩ := x3.form; cases e) (fun s e => by cases e) (fun s e => by cases e)⟩), x4, x5⟩
  have F1 : Fr O w w1 := f1.mono (fun k _ e => by subst e; exact ob)
  have Y1 : Hid (PuX w1 O b r sv tv L lim false T) := y1
  have HF1 : Hid (Fr O w w1) := F1
  have HZ1 : Hid (w1.heap.size = w.heap.size) := zz
  obtain ⟨d0, d1, d2, d3⟩ := y1.cells
  obtain ⟨N, hN⟩ : ∃ N, L.length = N := ⟨_, rfl⟩
  have KL : Hid (∀ k, Calls Try.prog 33 #[.pointer (some ⟨r, 0, none⟩)] (w1.drewN k) fun e w' => e = .returned (.int .i64 N) ∧ w' = w1.drewN k) := fun k => by
    rw [← hN]
    exact (ring_len r sv L lim _ (y1.2.1.fr (S := fun _ => False) ((Fr.refl _ _).drewN k) id (fun _ _ => id))).mono (fun e w' h => ⟨h.1, h.2.symm⟩)
  have KD : Hid (∀ k, Calls Try.prog 38 #[.pointer (some ⟨r, 0, none⟩), .int .i64 N] (w1.drewN k) fun e w' => e = .returned (.int .i64 N) ∧ PuX w' O b r sv tv [] lim false T ∧ Fr O w1 w') := fun k => by
    have hy : PuX (w1.drewN k) O b r sv tv L lim false T := y1.fr (S := fun _ => False) ((Fr.refl _ _).drewN k) id (fun _ _ => id)
    refine (drop_any r sv L lim N N _ hy.2.1 (by omega)).mono ?_
    rintro e w2 ⟨rfl, r2, f2⟩
    rw [List.drop_of_length_le (by omega)] at r2
    obtain ⟨q1, q2⟩ := hy.ring0 r2 f2
    exact ⟨rfl, q1, Fr.trans (b := w1.drewN k) ((Fr.refl _ _).drewN k) q2⟩
  rw [← hw1]
  clear hw1 c0 c3 z3 K x1 x2 x3 x4 x5 f1 zz F1 y1 d1 d2 d3 hN n1 n2
  have KL1 : Calls Try.prog 33 #[.pointer (some ⟨r, 0, none⟩)] w1.drew fun e w' => e = .returned (.int .i64 N) ∧ w' = w1.drew := KL.out 1
  have KD1 : Calls Try.prog 38 #[.pointer (some ⟨r, 0, none⟩), .int .i64 N] w1.drew fun e w' => e = .returned (.int .i64 N) ∧ PuX w' O b r sv tv [] lim false T ∧ Fr O w1 w' := KD.out 1
  go_region_with (first | (go_at_call 33; refine KL1.mono ?_; rintro e w2 ⟨rfl, rfl⟩) | (go_at_call 38; refine KD1.mono ?_; rintro e w2 ⟨rfl, x2, f2⟩))
  all_goals
    have HX2 : Hid (PuX w2 O b r sv tv [] lim false T) := x2
    have HF2 : Hid (Fr O w1 w2) := f2
    obtain ⟨q, c, rfl, -⟩ := x2.2.2.1.form
    have KU := unhang_in b _ _ _ q (T.getD []).length c w2 x2.1
    clear x2 f2
    go_wp2_with (fail)
    refine KU.mono ?_
    rintro e w3 ⟨rfl, hb3, f3, z3⟩
    have HB3 : Hid (w3.heap[b]? = some (.cells #[.pointer (some ⟨r, 0, none⟩), .slice none 0 0, .bool false, .bool false] 58 (0, 0))) := hb3
    have HF3 : Hid (Fr (fun k => k = b) w2 w3) := f3
    have HZ3 : Hid (w3.heap.size = w2.heap.size) := z3
    clear hb3 f3 z3 KU
    go_wp2
    go_end0
    refine ⟨rfl, PuAt.unhung HX2.out ob (fun k hk => ?_) few HB3.out HF3.out HZ3.out, (HF1.out.trans HF2.out).trans (HF3.out.mono (fun k _ e => by subst e; exact ob))⟩
    have := lt k hk
    have := HF2.out.size
    have := HZ1.out
    omega
end Go.Proofs.Ytibiiagdhdmpiaa
