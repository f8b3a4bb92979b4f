/- The document's Fold; the walk of HealthFolds. -/
import Derived.Test.YtdjmgfdobjgniaaEi
namespace Go.Proofs.Ytdjmgfdobjgniaa
open Go.RowKit
set_option linter.unusedVariables false
set_option maxRecDepth 100000
set_option maxHeartbeats 4000000

/-- Where the document's Fold stands behind n things. -/
structure RldS (w0 w : World) (g : Nat) (F R H : Int) (n : Int) (s : Hs) : Prop where
  doc : RM w g F R H s
  inv : InvH F n s
  bg : w0.heap.size ≤ g
  fr : Fr (fun k => w0.heap.size ≤ k) w0 w
theorem RldS.step {w0 w w1 : World} {g : Nat} {F R H n m : Int} {s t : Hs} (h : RldS w0 w g F R H n s) (hp : RM w1 g F R H t) (f : Fr (fun k => k = g) w w1) (hi : InvH F m t) : RldS w0 w1 g F R H m t :=
  ⟨hp, hi, h.bg, h.fr.trans (f.mono (fun k _ e => by show _ ≤ k; rw [e]; exact h.bg))⟩
theorem reFold_yes (F R H : Int) (q : Option Addr) (c n : Nat) (L : List Int) (w : World) (hr : OkR F R H) (hI : Ints10 w q c L) (hl : L.length = n) :
    Calls Try.prog 19 #[.agg #[.int .i64 F, .int .i64 R, .int .i64 H], .slice q n c] w fun e w' => e = .returned (.tuple #[.int .i64 (stI (runS F R H L).d), .int .i64 0]) ∧ Fr (fun _ => False) w w' := by
  have KN := fun w => reNew_yes F R H w hr
  have HR : Hid (OkR F R H) := hr
  have HI : Hid (Ints10 w q c L) := hI
  have HL : Hid (L.length = n) := hl
  have hnb : (n : Int) ≤ 8000000000000000000 := by have := hI.few; rw [hl] at this; have h2 : reachBytes < 2 ^ 47 := reach_lt; omega
  have hnc : n ≤ c := by have := hI.cap; rw [hl] at this; exact this
  obtain ⟨V, hV⟩ : ∃ V, runS F R H L = V := ⟨_, rfl⟩
  rw [hV]
  have HV : Hid (runS F R H L = V) := hV
  clear hI hl hr hV
  go_enter Try.func19, Try.ntmps19
  go_upto_region 1 with (fail)
  obtain ⟨wa, hwa⟩ : ∃ wa, wa = w.alloc (Obj.cells #[.int .i64 F, .int .i64 R, .int .i64 H] 23) := ⟨_, rfl⟩
  obtain ⟨go, hgo⟩ : ∃ go, go = w.heap.size := ⟨_, rfl⟩
  have Fa : Hid (Fr (fun _ => False) w wa) := by rw [hwa]; exact (Fr.refl _ _).alloc _
  have ba : wa.heap[go]? = some (.cells #[.int .i64 F, .int .i64 R, .int .i64 H] 23 (0, 0)) := by rw [hwa, hgo]; exact heap_alloc_new _ _
  have c0 : wa.cell? ⟨go, 0, none⟩ = some (.int .i64 F) := cell_of_heap ba rfl
  have c1 : wa.cell? ⟨go, 1, none⟩ = some (.int .i64 R) := cell_of_heap ba rfl
  have c2 : wa.cell? ⟨go, 2, none⟩ = some (.int .i64 H) := cell_of_heap ba rfl
  rw [← hwa, ← hgo]
  clear hwa hgo ba
  go_upto_region 4 with (go_at_call 9; refine (KN _).mono ?_; clear KN; rintro e w1 ⟨g, hg, rfl, h1, f1⟩)
  clear c0 c1 c2
  have HS0 : Hid (RldS w w1 g F R H 0 ⟨false, 0, 0⟩) := ⟨h1, InvH.start HR.out, Nat.le_trans Fa.out.size hg, (Fa.out.trans f1).mono (fun _ _ e => e.elim)⟩
  clear hg h1 f1 Fa
  go_wp2_with (fail)
  go_loopw [8] (fun x9 wr => ∃ (i : Nat), x9 = .int .i64 (i : Int) ∧ i ≤ n ∧ Hid (RldS w wr g F R H (i : Int) (runS F R H (L.take i)))) (fun x9 _ => n - (intOf x9).toNat)
  case atStart => exact ⟨0, rfl, by omega, HS0.out⟩
  case round =>
    clear HS0
    obtain ⟨i, rfl, hin, HS⟩ := hrel
    by_cases hlt : i < n
    · have hlt2 : (i : Int) < (n : Int) := by omega
      obtain ⟨a, hd⟩ : ∃ d, L[i]? = some d := ⟨L[i]'(by rw [HL.out]; exact hlt), List.getElem?_eq_getElem _⟩
      obtain ⟨gq, oq, rfl, hgq, d0, hdI⟩ := HI.out.cells i a hd
      have c0 : wr.cell? ⟨gq, oq + i, none⟩ = some (.int .i64 a) := (HS.out.fr.cell (p := ⟨gq, oq + i, none⟩) hgq (by show ¬ _ ≤ gq; omega)).trans d0
      have HT : Hid (runS F R H (L.take (i + 1)) = fldS F R H a (runS F R H (L.take i))) := take_next F R H L i a hd
      clear hd hgq d0 hdI
      obtain ⟨s, hs⟩ : ∃ s, runS F R H (L.take i) = s := ⟨_, rfl⟩
      rw [hs] at HS HT
      clear hs
      by_cases a0 : a = 0
      · subst a0
        have K1 := reProbe_in false g F R H i s wr HS.out.doc HS.out.inv (by omega)
        go_wp2_with (go_at_call 12; refine K1.mono ?_; clear K1; rintro e w2 ⟨rfl, p2, f2⟩)
        go_roundw
        case rel => exact ⟨i + 1, by go_num, by omega, by rw [HT.out]; exact HS.out.step p2 f2 (HS.out.inv.fld HR.out 0)⟩
        case measure => simp [intOf]; omega
      by_cases a1 : a = 1
      · subst a1
        have K1 := reProbe_in true g F R H i s wr HS.out.doc HS.out.inv (by omega)
        clear a0
        go_wp2_with (go_at_call 12; refine K1.mono ?_; clear K1; rintro e w2 ⟨rfl, p2, f2⟩)
        go_roundw
        case rel => exact ⟨i + 1, by go_num, by omega, by rw [HT.out]; exact HS.out.step p2 f2 (HS.out.inv.fld HR.out 1)⟩
        case measure => simp [intOf]; omega
      by_cases a2 : a = 2
      · subst a2
        have K1 := reTick_in g F R H i s wr HS.out.doc HS.out.inv
        clear a0 a1
        go_wp2_with (go_at_call 10; refine K1.mono ?_; clear K1; rintro e w2 ⟨rfl, p2, f2⟩)
        go_roundw
        case rel => exact ⟨i + 1, by go_num, by omega, by rw [HT.out]; exact HS.out.step p2 f2 (HS.out.inv.fld HR.out 2)⟩
        case measure => simp [intOf]; omega
      · have HU : Hid (fldS F R H a s = s) := by show _ = _; unfold fldS; rw [if_neg a0, if_neg a1, if_neg a2]
        have e0 : (a == 0) = false := by rw [beq_eq_false_iff_ne]; exact a0
        have e1 : (a == 1) = false := by rw [beq_eq_false_iff_ne]; exact a1
        have e2 : (a == 2) = false := by rw [beq_eq_false_iff_ne]; exact a2
        go_wp2_with (fail)
        go_roundw
        case rel => exact ⟨i + 1, by go_num, by omega, by rw [HT.out, HU.out]; have hh := HS.out; exact ⟨hh.doc, hh.inv.more (by omega), hh.bg, hh.fr⟩⟩
        case measure => simp [intOf]; omega
    · have hlt2 : ¬ (i : Int) < (n : Int) := by omega
      have HV2 : Hid (runS F R H (L.take i) = V) := by show _ = _; rw [List.take_of_length_le (by rw [HL.out]; omega)]; exact HV.out
      obtain ⟨d, r, k⟩ := V
      have c3 : wr.cell? ⟨g, 3, none⟩ = some (.bool d) := by have := HS.out.doc; rw [HV2.out] at this; exact cell_of_heap this rfl
      cases d
      · go_wp2_with (fail)
        go_ret2
        exact ⟨rfl, HS.out.fr.mono (fun k hk e => by have : w.heap.size ≤ k := e; omega)⟩
      · go_wp2_with (fail)
        go_ret2
        exact ⟨rfl, HS.out.fr.mono (fun k hk e => by have : w.heap.size ≤ k := e; omega)⟩
theorem reFold_no (F R H : Int) (v : Value) (w : World) (hr : ¬ OkR F R H) :
    Calls Try.prog 19 #[.agg #[.int .i64 F, .int .i64 R, .int .i64 H], v] w fun e w' => e = .returned (.tuple #[.int .i64 0, .int .i64 1]) ∧ Fr (fun _ => False) w w' := by
  have KN := fun w => reNew_no F R H w hr
  clear hr
  go_enter Try.func19, Try.ntmps19
  go_upto_region 1 with (fail)
  obtain ⟨wa, hwa⟩ : ∃ wa, wa = w.alloc (Obj.cells #[.int .i64 F, .int .i64 R, .int .i64 H] 23) := ⟨_, rfl⟩
  obtain ⟨go, hgo⟩ : ∃ go, go = w.heap.size := ⟨_, rfl⟩
  have Fa : Hid (Fr (fun _ => False) w wa) := by rw [hwa]; exact (Fr.refl _ _).alloc _
  have ba : wa.heap[go]? = some (.cells #[.int .i64 F, .int .i64 R, .int .i64 H] 23 (0, 0)) := by rw [hwa, hgo]; exact heap_alloc_new _ _
  have c0 : wa.cell? ⟨go, 0, none⟩ = some (.int .i64 F) := cell_of_heap ba rfl
  have c1 : wa.cell? ⟨go, 1, none⟩ = some (.int .i64 R) := cell_of_heap ba rfl
  have c2 : wa.cell? ⟨go, 2, none⟩ = some (.int .i64 H) := cell_of_heap ba rfl
  rw [← hwa, ← hgo]
  clear hwa hgo ba
  go_wp2_with (go_at_call 9; refine (KN _).mono ?_; clear KN; rintro e w1 ⟨rfl, f1⟩)
  go_ret2
  exact ⟨rfl, Fa.out.trans f1⟩
theorem efolds_core (F R H x y : Int) (q : Option Addr) (c n : Nat) (L : List Int) (w : World) (hI : Ints10 w q c L) (hl : L.length = n)
    (KE : ∀ w, Ints10 w q c L → Calls Try.prog 18 #[.agg #[.int .i64 F, .int .i64 R, .int .i64 H], .slice q n c] w fun e w' => e = .returned (.tuple #[.int .i64 x, .int .i64 y]) ∧ Fr (fun _ => False) w w')
    (KR : ∀ w, Ints10 w q c L → Calls Try.prog 19 #[.agg #[.int .i64 F, .int .i64 R, .int .i64 H], .slice q n c] w fun e w' => e = .returned (.tuple #[.int .i64 x, .int .i64 y]) ∧ Fr (fun _ => False) w w') :
    Calls Try.prog 4 #[.agg #[.int .i64 F, .int .i64 R, .int .i64 H], .slice q n c] w fun e w' => e = .returned (.bool true) ∧ Below w.heap.size w w' := by
  have KA : Hid (∀ w, Calls Try.prog 17 #[] w fun e w' => e = .returned (.bool true) ∧ Fr (fun _ => False) w w') := fun w => eawake_in w
  have HI : Hid (Ints10 w q c L) := hI
  have HE : Hid (∀ w, Ints10 w q c L → Calls Try.prog 18 #[.agg #[.int .i64 F, .int .i64 R, .int .i64 H], .slice q n c] w fun e w' => e = .returned (.tuple #[.int .i64 x, .int .i64 y]) ∧ Fr (fun _ => False) w w') := KE
  have HD : Hid (∀ w, Ints10 w q c L → Calls Try.prog 19 #[.agg #[.int .i64 F, .int .i64 R, .int .i64 H], .slice q n c] w fun e w' => e = .returned (.tuple #[.int .i64 x, .int .i64 y]) ∧ Fr (fun _ => False) w w') := KR
  clear KE KR hI hl
  go_enter Try.func4, Try.ntmps4
  go_upto_region 1 with (fail)
  obtain ⟨wa, hwa⟩ : ∃ wa, wa = w.alloc (Obj.cells #[.int .i64 F, .int .i64 R, .int .i64 H] 23) := ⟨_, rfl⟩
  obtain ⟨go, hgo⟩ : ∃ go, go = w.heap.size := ⟨_, rfl⟩
  have Fa : Hid (Fr (fun _ => False) w wa) := by rw [hwa]; exact (Fr.refl _ _).alloc _
  have ba : wa.heap[go]? = some (.cells #[.int .i64 F, .int .i64 R, .int .i64 H] 23 (0, 0)) := by rw [hwa, hgo]; exact heap_alloc_new _ _
  have c0 : wa.cell? ⟨go, 0, none⟩ = some (.int .i64 F) := cell_of_heap ba rfl
  have c1 : wa.cell? ⟨go, 1, none⟩ = some (.int .i64 R) := cell_of_heap ba rfl
  have c2 : wa.cell? ⟨go, 2, none⟩ = some (.int .i64 H) := cell_of_heap ba rfl
  have HB : Hid (wa.heap[go]? = some (.cells #[.int .i64 F, .int .i64 R, .int .i64 H] 23 (0, 0))) := ba
  rw [← hwa, ← hgo]
  clear hwa hgo ba
  have K1 := HE.out wa (HI.out.fr Fa.out (fun _ _ => id))
  go_upto_region 2 with (go_at_call 18; refine K1.mono ?_; clear K1; rintro e w1 ⟨rfl, f1⟩)
  have b1 := (f1.block go (lt_of_heap HB.out) id).trans HB.out
  have e0 : w1.cell? ⟨go, 0, none⟩ = some (.int .i64 F) := cell_of_heap b1 rfl
  have e1 : w1.cell? ⟨go, 1, none⟩ = some (.int .i64 R) := cell_of_heap b1 rfl
  have e2 : w1.cell? ⟨go, 2, none⟩ = some (.int .i64 H) := cell_of_heap b1 rfl
  clear b1 c0 c1 c2
  have K2 := HD.out w1 (HI.out.fr (Fa.out.trans f1) (fun _ _ => id))
  go_wp2_with (first | (go_at_call 19; refine K2.mono ?_; clear K2; rintro e w2 ⟨rfl, f2⟩) | (go_at_call 17; refine (KA.out _).mono ?_; rintro e w3 ⟨rfl, f3⟩))
  go_ret
  exact ⟨rfl, (((Fa.out.trans f1).trans f2).trans f3).below (fun _ _ => id)⟩
theorem efolds_walk (F R H : Int) (q : Option Addr) (c n : Nat) (L : List Int) (w : World) (hI : Ints10 w q c L) (hl : L.length = n) : Calls Try.prog 4 #[.agg #[.int .i64 F, .int .i64 R, .int .i64 H], .slice q n c] w fun e w' => e = .returned (.bool true) ∧ Below w.heap.size w w' := by
  by_cases hr : OkR F R H
  · exact efolds_core F R H _ _ q c n L w hI hl (fun w h => eFold_yes F R H q c n L w hr h hl) (fun w h => reFold_yes F R H q c n L w hr h hl)
  · exact efolds_core F R H _ _ q c n L w hI hl (fun w h => eFold_no F R H _ w hr) (fun w h => reFold_no F R H _ w hr)
end Go.Proofs.Ytdjmgfdobjgniaa
