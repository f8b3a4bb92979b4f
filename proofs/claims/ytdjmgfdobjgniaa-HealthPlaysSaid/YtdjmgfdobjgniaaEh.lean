/- The walk of HealthPlays. -/
import Derived.Test.YtdjmgfdobjgniaaEe
import Derived.Test.YtdjmgfdobjgniaaL17
namespace Go.Proofs.Ytdjmgfdobjgniaa
open Go.RowKit
set_option linter.unusedVariables false
set_option maxRecDepth 100000
set_option maxHeartbeats 4000000

/-- Both models, the same, in memory that was not there before. -/
structure BothH (w0 w : World) (g rg : Nat) (F R H : Int) (n : Int) (s : Hs) : Prop where
  prog : HM w g F R H s
  doc : RM w rg F R H s
  inv : InvH F n s
  bg : w0.heap.size ≤ g
  br : w0.heap.size ≤ rg
  fr : Fr (fun k => w0.heap.size ≤ k) w0 w
theorem HM.ne {w : World} {g rg : Nat} {F R H F2 R2 H2 : Int} {s t : Hs} (h : HM w g F R H s) (k : RM w rg F2 R2 H2 t) : g ≠ rg := by
  rintro rfl
  unfold HM at h
  unfold RM at k
  rw [h] at k
  simp at k
theorem BothH.later {w0 w w' : World} {g rg : Nat} {F R H n : Int} {s : Hs} (h : BothH w0 w g rg F R H n s) (f : Fr (fun _ => False) w w') : BothH w0 w' g rg F R H n s :=
  ⟨h.prog.fr f id, h.doc.fr f id, h.inv, h.bg, h.br, h.fr.trans (f.mono (fun _ _ e => e.elim))⟩
theorem BothH.step {w0 w w1 w2 : World} {g rg : Nat} {F R H n m : Int} {s t : Hs} (h : BothH w0 w g rg F R H n s) (hd : RM w1 rg F R H t) (f1 : Fr (fun k => k = rg) w w1) (hp : HM w2 g F R H t) (f2 : Fr (fun k => k = g) w1 w2) (hi : InvH F m t) : BothH w0 w2 g rg F R H m t :=
  have hne := h.prog.ne h.doc
  ⟨hp, hd.fr f2 (fun e => hne e.symm), hi, h.bg, h.br, (h.fr.trans (f1.mono (fun k _ e => by show _ ≤ k; rw [e]; exact h.br))).trans (f2.mono (fun k _ e => by show _ ≤ k; rw [e]; exact h.bg))⟩
theorem eplays_no (F R H : Int) (q : Option Addr) (c n : Nat) (w : World) (hr : ¬ OkR F R H) : Calls Try.prog 3 #[.agg #[.int .i64 F, .int .i64 R, .int .i64 H], .slice q n c] w fun e w' => e = .returned (.bool true) ∧ Below w.heap.size w w' := by
  have KN := fun w => eNew_no F R H w hr
  have KR := fun w => reNew_no F R H w hr
  have KA := fun w => eawake_in w
  clear hr
  go_enter Try.func3, Try.ntmps3
  go_upto_region 1 with (fail)
  obtain ⟨wa, hwa⟩ : ∃ wa, wa = w.alloc (Obj.cells #[.int .i64 F, .int .i64 R, .int .i64 H] 23) := ⟨_, rfl⟩
  obtain ⟨go, hgo⟩ : ∃ go, go = w.heap.size := ⟨_, rfl⟩
  have Fa : Hid (Fr (fun _ => False) w wa) := by rw [hwa]; exact (Fr.refl _ _).alloc _
  have ba : wa.heap[go]? = some (.cells #[.int .i64 F, .int .i64 R, .int .i64 H] 23 (0, 0)) := by rw [hwa, hgo]; exact heap_alloc_new _ _
  have c0 : wa.cell? ⟨go, 0, none⟩ = some (.int .i64 F) := cell_of_heap ba rfl
  have c1 : wa.cell? ⟨go, 1, none⟩ = some (.int .i64 R) := cell_of_heap ba rfl
  have c2 : wa.cell? ⟨go, 2, none⟩ = some (.int .i64 H) := cell_of_heap ba rfl
  have HB : Hid (wa.heap[go]? = some (.cells #[.int .i64 F, .int .i64 R, .int .i64 H] 23 (0, 0))) := ba
  rw [← hwa, ← hgo]
  clear hwa hgo ba
  go_upto_region 2 with (go_at_call 8; refine (KN _).mono ?_; clear KN; rintro e w1 ⟨rfl, f1⟩)
  have b1 := (f1.block go (lt_of_heap HB.out) id).trans HB.out
  have e0 : w1.cell? ⟨go, 0, none⟩ = some (.int .i64 F) := cell_of_heap b1 rfl
  have e1 : w1.cell? ⟨go, 1, none⟩ = some (.int .i64 R) := cell_of_heap b1 rfl
  have e2 : w1.cell? ⟨go, 2, none⟩ = some (.int .i64 H) := cell_of_heap b1 rfl
  clear b1 c0 c1 c2
  go_wp2_with (go_at_call 9; refine (KR _).mono ?_; clear KR; rintro e w2 ⟨rfl, f2⟩)
  refine wp_loop_rounds 1 ?_
  rw [rounds_succ]
  go_wp2_with (go_at_call 17; refine (KA _).mono ?_; rintro e w3 ⟨rfl, f3⟩)
  go_ret
  exact ⟨rfl, (((Fa.out.trans f1).trans f2).trans f3).below (fun _ _ => id)⟩
theorem eplays_yes (F R H : Int) (q : Option Addr) (c n : Nat) (L : List Int) (w : World) (hr : OkR F R H) (hI : Ints10 w q c L) (hl : L.length = n) : Calls Try.prog 3 #[.agg #[.int .i64 F, .int .i64 R, .int .i64 H], .slice q n c] w fun e w' => e = .returned (.bool true) ∧ Below w.heap.size w w' := by
  have KN := fun w => eNew_yes F R H w hr
  have KR := fun w => reNew_yes F R H w hr
  have KA : Hid (∀ w, Calls Try.prog 17 #[] w fun e w' => e = .returned (.bool true) ∧ Fr (fun _ => False) w w') := fun w => eawake_in w
  have HR : Hid (OkR F R H) := hr
  have HI : Hid (Ints10 w q c L) := hI
  have HL : Hid (L.length = n) := hl
  have hnb : (n : Int) ≤ 8000000000000000000 := by have := hI.few; rw [hl] at this; have h2 : reachBytes < 2 ^ 47 := reach_lt; omega
  have hnc : n ≤ c := by have := hI.cap; rw [hl] at this; exact this
  clear hI hl hr
  go_enter Try.func3, Try.ntmps3
  go_upto_region 1 with (fail)
  obtain ⟨wa, hwa⟩ : ∃ wa, wa = w.alloc (Obj.cells #[.int .i64 F, .int .i64 R, .int .i64 H] 23) := ⟨_, rfl⟩
  obtain ⟨go, hgo⟩ : ∃ go, go = w.heap.size := ⟨_, rfl⟩
  have Fa : Hid (Fr (fun _ => False) w wa) := by rw [hwa]; exact (Fr.refl _ _).alloc _
  have ba : wa.heap[go]? = some (.cells #[.int .i64 F, .int .i64 R, .int .i64 H] 23 (0, 0)) := by rw [hwa, hgo]; exact heap_alloc_new _ _
  have c0 : wa.cell? ⟨go, 0, none⟩ = some (.int .i64 F) := cell_of_heap ba rfl
  have c1 : wa.cell? ⟨go, 1, none⟩ = some (.int .i64 R) := cell_of_heap ba rfl
  have c2 : wa.cell? ⟨go, 2, none⟩ = some (.int .i64 H) := cell_of_heap ba rfl
  have HB : Hid (wa.heap[go]? = some (.cells #[.int .i64 F, .int .i64 R, .int .i64 H] 23 (0, 0))) := ba
  rw [← hwa, ← hgo]
  clear hwa hgo ba
  go_upto_region 2 with (go_at_call 8; refine (KN _).mono ?_; clear KN; rintro e w1 ⟨g, hg, rfl, h1, f1⟩)
  have b1 := (f1.block go (lt_of_heap HB.out) id).trans HB.out
  have e0 : w1.cell? ⟨go, 0, none⟩ = some (.int .i64 F) := cell_of_heap b1 rfl
  have e1 : w1.cell? ⟨go, 1, none⟩ = some (.int .i64 R) := cell_of_heap b1 rfl
  have e2 : w1.cell? ⟨go, 2, none⟩ = some (.int .i64 H) := cell_of_heap b1 rfl
  clear b1 c0 c1 c2
  go_upto_region 5 with (go_at_call 9; refine (KR _).mono ?_; clear KR; rintro e w2 ⟨rg, hrg, rfl, h2, f2⟩)
  have HS0 : Hid (BothH w w2 g rg F R H 0 ⟨false, 0, 0⟩) := ⟨h1.fr f2 id, h2, InvH.start HR.out, Nat.le_trans Fa.out.size hg, Nat.le_trans (Fa.out.trans f1).size hrg, ((Fa.out.trans f1).trans f2).mono (fun _ _ e => e.elim)⟩
  clear hg h1 f1 hrg h2 f2 Fa HB e0 e1 e2
  go_wp2_with (fail)
  go_loopw [9] (fun x9 wr => ∃ (i : Nat) (s : Hs), x9 = .int .i64 (i : Int) ∧ i ≤ n ∧ Hid (BothH w wr g rg F R H (i : Int) s)) (fun x9 _ => n - (intOf x9).toNat)
  case atStart => exact ⟨0, _, rfl, by omega, HS0.out⟩
  case round =>
    clear HS0
    obtain ⟨i, s, rfl, hin, HS⟩ := hrel
    by_cases hlt : i < n
    · have hlt2 : (i : Int) < (n : Int) := by omega
      obtain ⟨a, hd⟩ : ∃ d, L[i]? = some d := ⟨L[i]'(by rw [HL.out]; exact hlt), List.getElem?_eq_getElem _⟩
      obtain ⟨gq, oq, rfl, hgq, d0, hdI⟩ := HI.out.cells i a hd
      have HC : Hid (∀ w', Fr (fun k => w.heap.size ≤ k) w w' → w'.cell? ⟨gq, oq + i, none⟩ = some (.int .i64 a)) := fun w' f => (f.cell (p := ⟨gq, oq + i, none⟩) hgq (by show ¬ _ ≤ gq; omega)).trans d0
      have c0 : wr.cell? ⟨gq, oq + i, none⟩ = some (.int .i64 a) := HC.out wr HS.out.fr
      clear hd hgq d0 hdI
      by_cases ha : a = 2
      · subst ha
        obtain ⟨t, ht⟩ : ∃ t, tckS s = t := ⟨_, rfl⟩
        have K1 := reTick_in rg F R H i s wr HS.out.doc HS.out.inv
        have HD : Hid (∀ w2, HM w2 g F R H s → Calls Try.prog 11 #[.pointer (some ⟨g, 0, none⟩)] w2 fun e w' => e = .returned (.int .i64 0) ∧ HM w' g F R H t ∧ Fr (fun k => k = g) w2 w') := fun w2 h2 => by have := eTick_in g F R H i s w2 h2 HR.out.f1 HS.out.inv; rw [ht] at this; exact this
        rw [ht] at K1
        have HY : Hid (InvH F ((i : Int) + 1) t) := by have := HS.out.inv.tck; rw [ht] at this; exact this
        clear ht
        go_upto_region 10 with (go_at_call 10; refine K1.mono ?_; clear K1; rintro e w2 ⟨rfl, p2, f2⟩)
        have K2 := HD.out w2 (HS.out.prog.fr f2 (fun e => HS.out.prog.ne HS.out.doc e))
        go_upto_region 15 with (go_at_call 11; refine K2.mono ?_; clear K2; rintro e w3 ⟨rfl, p3, f3⟩)
        have H3 : Hid (BothH w w3 g rg F R H ((i : Int) + 1) t) := HS.out.step p2 f2 p3 f3 HY.out
        clear p2 f2 p3 f3 HS HD HY c0
        have KU : Hid (∀ k, Calls Try.prog 14 #[.pointer (some ⟨g, 0, none⟩)] (w3.drewN k) fun e w' => e = .returned (.bool (!t.d)) ∧ w' = w3.drewN k) := fun k => (eUp_in g F R H t _ (H3.out.prog.fr ((Fr.refl (fun _ => False) _).drewN k) id) HR.out.f1).mono (fun e w' h => ⟨h.1, h.2.symm⟩)
        have KS : Hid (∀ k, Calls Try.prog 15 #[.pointer (some ⟨g, 0, none⟩)] (w3.drewN k) fun e w' => e = .returned (.int .i64 t.r) ∧ w' = w3.drewN k) := fun k => (eRun_in g F R H t _ (H3.out.prog.fr ((Fr.refl (fun _ => False) _).drewN k) id) HR.out.f1).mono (fun e w' h => ⟨h.1, h.2.symm⟩)
        have KH : Hid (∀ k, Calls Try.prog 16 #[.pointer (some ⟨g, 0, none⟩)] (w3.drewN k) fun e w' => e = .returned (.int .i64 t.h) ∧ w' = w3.drewN k) := fun k => (eHold_in g F R H t _ (H3.out.prog.fr ((Fr.refl (fun _ => False) _).drewN k) id) HR.out.f1).mono (fun e w' h => ⟨h.1, h.2.symm⟩)
        have r3 : w3.cell? ⟨rg, 3, none⟩ = some (.bool t.d) := cell_of_heap H3.out.doc rfl
        have r4 : w3.cell? ⟨rg, 4, none⟩ = some (.int .i64 t.r) := cell_of_heap H3.out.doc rfl
        have r5 : w3.cell? ⟨rg, 5, none⟩ = some (.int .i64 t.h) := cell_of_heap H3.out.doc rfl
        have hne : (!t.d == t.d) = false := by cases t.d <;> rfl
        have hne2 : decide ((!t.d) = t.d) = false := by cases t.d <;> rfl
        go_quiet (first | (go_at_call 14; exact Calls.quiet_of_same (KU.out _)) | (go_at_call 15; exact Calls.quiet_of_same (KS.out _)) | (go_at_call 16; exact Calls.quiet_of_same (KH.out _)))
        go_wp2_with (fail)
        go_roundw
        case rel => exact ⟨i + 1, t, by go_num, by omega, H3.out.later ((Fr.refl _ _).drewN _)⟩
        case measure => simp [intOf]; omega
      · have ha2 : (a == 2) = false := by rw [beq_eq_false_iff_ne]; exact ha
        obtain ⟨b, hb⟩ : ∃ b, (a == 1) = b := ⟨_, rfl⟩
        obtain ⟨t, ht⟩ : ∃ t, prbS F R H b s = t := ⟨_, rfl⟩
        have K1 := reProbe_in b rg F R H i s wr HS.out.doc HS.out.inv (by omega)
        have HD : Hid (∀ w2, HM w2 g F R H s → Calls Try.prog 13 #[.pointer (some ⟨g, 0, none⟩), .bool b] w2 fun e w' => e = .returned (.int .i64 0) ∧ HM w' g F R H t ∧ Fr (fun k => k = g) w2 w') := fun w2 h2 => by have := eProbe_in b g F R H i s w2 h2 HR.out.f1 HS.out.inv (by omega); rw [ht] at this; exact this
        rw [ht] at K1
        have HY : Hid (InvH F ((i : Int) + 1) t) := by have := HS.out.inv.prb HR.out b; rw [ht] at this; exact this
        clear ht
        go_upto_region 13 with (go_at_call 12; refine K1.mono ?_; clear K1; rintro e w2 ⟨rfl, p2, f2⟩)
        have K2 := HD.out w2 (HS.out.prog.fr f2 (fun e => HS.out.prog.ne HS.out.doc e))
        have c1 : w2.cell? ⟨gq, oq + i, none⟩ = some (.int .i64 a) := HC.out w2 (HS.out.fr.trans (f2.mono (fun k _ e => by show _ ≤ k; rw [e]; exact HS.out.br)))
        clear c0
        go_upto_region 15 with (go_at_call 13; refine K2.mono ?_; clear K2; rintro e w3 ⟨rfl, p3, f3⟩)
        have H3 : Hid (BothH w w3 g rg F R H ((i : Int) + 1) t) := HS.out.step p2 f2 p3 f3 HY.out
        clear p2 f2 p3 f3 HS HD HY c1
        have KU : Hid (∀ k, Calls Try.prog 14 #[.pointer (some ⟨g, 0, none⟩)] (w3.drewN k) fun e w' => e = .returned (.bool (!t.d)) ∧ w' = w3.drewN k) := fun k => (eUp_in g F R H t _ (H3.out.prog.fr ((Fr.refl (fun _ => False) _).drewN k) id) HR.out.f1).mono (fun e w' h => ⟨h.1, h.2.symm⟩)
        have KS : Hid (∀ k, Calls Try.prog 15 #[.pointer (some ⟨g, 0, none⟩)] (w3.drewN k) fun e w' => e = .returned (.int .i64 t.r) ∧ w' = w3.drewN k) := fun k => (eRun_in g F R H t _ (H3.out.prog.fr ((Fr.refl (fun _ => False) _).drewN k) id) HR.out.f1).mono (fun e w' h => ⟨h.1, h.2.symm⟩)
        have KH : Hid (∀ k, Calls Try.prog 16 #[.pointer (some ⟨g, 0, none⟩)] (w3.drewN k) fun e w' => e = .returned (.int .i64 t.h) ∧ w' = w3.drewN k) := fun k => (eHold_in g F R H t _ (H3.out.prog.fr ((Fr.refl (fun _ => False) _).drewN k) id) HR.out.f1).mono (fun e w' h => ⟨h.1, h.2.symm⟩)
        have r3 : w3.cell? ⟨rg, 3, none⟩ = some (.bool t.d) := cell_of_heap H3.out.doc rfl
        have r4 : w3.cell? ⟨rg, 4, none⟩ = some (.int .i64 t.r) := cell_of_heap H3.out.doc rfl
        have r5 : w3.cell? ⟨rg, 5, none⟩ = some (.int .i64 t.h) := cell_of_heap H3.out.doc rfl
        have hne : (!t.d == t.d) = false := by cases t.d <;> rfl
        have hne2 : decide ((!t.d) = t.d) = false := by cases t.d <;> rfl
        go_quiet (first | (go_at_call 14; exact Calls.quiet_of_same (KU.out _)) | (go_at_call 15; exact Calls.quiet_of_same (KS.out _)) | (go_at_call 16; exact Calls.quiet_of_same (KH.out _)))
        go_wp2_with (fail)
        go_roundw
        case rel => exact ⟨i + 1, t, by go_num, by omega, H3.out.later ((Fr.refl _ _).drewN _)⟩
        case measure => simp [intOf]; omega
    · have hlt2 : ¬ (i : Int) < (n : Int) := by omega
      go_wp2_with (go_at_call 17; refine (KA.out _).mono ?_; rintro e w3 ⟨rfl, f3⟩)
      go_ret
      exact ⟨rfl, (HS.out.fr.trans (f3.mono (fun _ _ e => e.elim))).below (fun k hk e => by have : w.heap.size ≤ k := e; omega)⟩
theorem eplays_walk (F R H : Int) (q : Option Addr) (c n : Nat) (L : List Int) (w : World) (hI : Ints10 w q c L) (hl : L.length = n) : Calls Try.prog 3 #[.agg #[.int .i64 F, .int .i64 R, .int .i64 H], .slice q n c] w fun e w' => e = .returned (.bool true) ∧ Below w.heap.size w w' := by
  by_cases hr : OkR F R H
  · exact eplays_yes F R H q c n L w hr hI hl
  · exact eplays_no F R H q c n w hr
end Go.Proofs.Ytdjmgfdobjgniaa
