/- Fold: the program's and the document's; the walk of HealthFolds. -/
import Derived.Test.YtdjmgfdobjgniaaEe
import Derived.Test.YtdjmgfdobjgniaaL17
namespace Go.Proofs.Ytdjmgfdobjgniaa
open Go.RowKit
set_option linter.unusedVariables false
set_option maxRecDepth 100000
set_option maxHeartbeats 4000000

/-- The steps, in a row. -/
def KindsAt (w : World) (g : Nat) : Prop := w.heap[g]? = some (.cells #[.func (.func 23) #[] #[], .func (.func 22) #[] #[], .func (.func 21) #[] #[]] 49 (0, 0))
theorem KindsAt.fr {S : Nat → Prop} {w w' : World} {g : Nat} (h : KindsAt w g) (f : Fr S w w') (hs : ¬ S g) : KindsAt w' g := (f.block g (lt_of_heap h) hs).trans h
theorem KindsAt.ne {w : World} {g kg : Nat} {F R H : Int} {s : Hs} (h : KindsAt w kg) (k : HM w g F R H s) : kg ≠ g := by
  rintro rfl
  unfold KindsAt at h
  unfold HM at k
  rw [h] at k
  simp at k
theorem ekinds_in (w : World) : Calls Try.prog 25 #[] w fun e w' => e = .returned (.slice (some ⟨w.heap.size, 0, none⟩) 3 3) ∧ KindsAt w' w.heap.size ∧ Fr (fun _ => False) w w' := by
  go_enter Try.func25, Try.ntmps25
  go_wp2_with (fail)
  go_ret
  exact ⟨rfl, heap_alloc_new _ _, (Fr.refl _ _).alloc _⟩
theorem take_next (F R H : Int) (L : List Int) (i : Nat) (a : Int) (h : L[i]? = some a) : runS F R H (L.take (i + 1)) = fldS F R H a (runS F R H (L.take i)) := by
  rw [List.take_add_one, h]
  exact runS_snoc F R H (L.take i) a
/-- Where Fold stands behind i things. -/
structure FldS (w0 w : World) (g kg : Nat) (F R H : Int) (n : Int) (s : Hs) : Prop where
  prog : HM w g F R H s
  row : KindsAt w kg
  inv : InvH F n s
  bg : w0.heap.size ≤ g
  fr : Fr (fun k => w0.heap.size ≤ k) w0 w
theorem FldS.step {w0 w w1 : World} {g kg : Nat} {F R H n m : Int} {s t : Hs} (h : FldS w0 w g kg F R H n s) (hp : HM w1 g F R H t) (f : Fr (fun k => k = g) w w1) (hi : InvH F m t) : FldS w0 w1 g kg F R H m t :=
  ⟨hp, h.row.fr f (h.row.ne h.prog), hi, h.bg, h.fr.trans (f.mono (fun k _ e => by show _ ≤ k; rw [e]; exact h.bg))⟩
theorem eFold_yes (F R H : Int) (q : Option Addr) (c n : Nat) (L : List Int) (w : World) (hr : OkR F R H) (hI : Ints10 w q c L) (hl : L.length = n) :
    Calls Try.prog 18 #[.agg #[.int .i64 F, .int .i64 R, .int .i64 H], .slice q n c] w fun e w' => e = .returned (.tuple #[.int .i64 (stI (runS F R H L).d), .int .i64 0]) ∧ Fr (fun _ => False) w w' := by
  have KN := fun w => eNew_yes F R H w hr
  have KK := fun w => ekinds_in w
  have HR : Hid (OkR F R H) := hr
  have HI : Hid (Ints10 w q c L) := hI
  have HL : Hid (L.length = n) := hl
  have hnb : (n : Int) ≤ 8000000000000000000 := by have := hI.few; rw [hl] at this; have h2 : reachBytes < 2 ^ 47 := reach_lt; omega
  have hnc : n ≤ c := by have := hI.cap; rw [hl] at this; exact this
  obtain ⟨V, hV⟩ : ∃ V, runS F R H L = V := ⟨_, rfl⟩
  rw [hV]
  have HV : Hid (runS F R H L = V) := hV
  clear hI hl hr hV
  go_enter Try.func18, Try.ntmps18
  go_upto_region 1 with (fail)
  obtain ⟨wa, hwa⟩ : ∃ wa, wa = w.alloc (Obj.cells #[.int .i64 F, .int .i64 R, .int .i64 H] 23) := ⟨_, rfl⟩
  obtain ⟨go, hgo⟩ : ∃ go, go = w.heap.size := ⟨_, rfl⟩
  have Fa : Hid (Fr (fun _ => False) w wa) := by rw [hwa]; exact (Fr.refl _ _).alloc _
  have ba : wa.heap[go]? = some (.cells #[.int .i64 F, .int .i64 R, .int .i64 H] 23 (0, 0)) := by rw [hwa, hgo]; exact heap_alloc_new _ _
  have c0 : wa.cell? ⟨go, 0, none⟩ = some (.int .i64 F) := cell_of_heap ba rfl
  have c1 : wa.cell? ⟨go, 1, none⟩ = some (.int .i64 R) := cell_of_heap ba rfl
  have c2 : wa.cell? ⟨go, 2, none⟩ = some (.int .i64 H) := cell_of_heap ba rfl
  rw [← hwa, ← hgo]
  clear hwa hgo ba
  go_upto_region 4 with (go_at_call 8; refine (KN _).mono ?_; clear KN; rintro e w1 ⟨g, hg, rfl, h1, f1⟩)
  clear c0 c1 c2
  go_upto_region 5 with (go_at_call 25; refine (KK _).mono ?_; clear KK; rintro e w2 ⟨rfl, h2, f2⟩)
  obtain ⟨kg, hkg⟩ : ∃ kg, kg = w1.heap.size := ⟨_, rfl⟩
  rw [← hkg] at h2 ⊢
  have HS0 : Hid (FldS w w2 g kg F R H 0 ⟨false, 0, 0⟩) := ⟨h1.fr f2 id, h2, InvH.start HR.out, Nat.le_trans Fa.out.size hg, ((Fa.out.trans f1).trans f2).mono (fun _ _ e => e.elim)⟩
  clear hg h1 f1 h2 f2 Fa hkg
  go_wp2_with (fail)
  go_loopw [22] (fun x9 wr => ∃ (i : Nat), x9 = .int .i64 (i : Int) ∧ i ≤ n ∧ Hid (FldS w wr g kg F R H (i : Int) (runS F R H (L.take i)))) (fun x9 _ => n - (intOf x9).toNat)
  case atStart => exact ⟨0, rfl, by omega, HS0.out⟩
  case round =>
    clear HS0
    obtain ⟨i, rfl, hin, HS⟩ := hrel
    by_cases hlt : i < n
    · have hlt2 : (i : Int) < (n : Int) := by omega
      obtain ⟨a, hd⟩ : ∃ d, L[i]? = some d := ⟨L[i]'(by rw [HL.out]; exact hlt), List.getElem?_eq_getElem _⟩
      obtain ⟨gq, oq, rfl, hgq, d0, hdI⟩ := HI.out.cells i a hd
      have c0 : wr.cell? ⟨gq, oq + i, none⟩ = some (.int .i64 a) := (HS.out.fr.cell (p := ⟨gq, oq + i, none⟩) hgq (by show ¬ _ ≤ gq; omega)).trans d0
      have HT : Hid (runS F R H (L.take (i + 1)) = fldS F R H a (runS F R H (L.take i))) := take_next F R H L i a hd
      clear hd hgq d0 hdI
      obtain ⟨s, hs⟩ : ∃ s, runS F R H (L.take i) = s := ⟨_, rfl⟩
      rw [hs] at HS HT
      clear hs
      have k0 : wr.cell? ⟨kg, 0, none⟩ = some (.func (.func 23) #[] #[]) := cell_of_heap HS.out.row rfl
      have k1 : wr.cell? ⟨kg, 1, none⟩ = some (.func (.func 22) #[] #[]) := cell_of_heap HS.out.row rfl
      have k2 : wr.cell? ⟨kg, 2, none⟩ = some (.func (.func 21) #[] #[]) := cell_of_heap HS.out.row rfl
      by_cases a0 : a = 0
      · subst a0
        have K1 := take_prb false g F R H i s wr HS.out.prog HR.out.f1 HS.out.inv (by omega)
        simp only [Bool.false_eq_true, if_false] at K1
        go_wp2_with (go_at_call 20; refine K1.mono ?_; clear K1; rintro e w2 ⟨rfl, p2, f2⟩)
        go_roundw
        case rel => exact ⟨i + 1, by go_num, by omega, by rw [HT.out]; exact HS.out.step p2 f2 (HS.out.inv.fld HR.out 0)⟩
        case measure => simp [intOf]; omega
      by_cases a1 : a = 1
      · subst a1
        have K1 := take_prb true g F R H i s wr HS.out.prog HR.out.f1 HS.out.inv (by omega)
        simp only [if_true] at K1
        clear a0
        go_wp2_with (go_at_call 20; refine K1.mono ?_; clear K1; rintro e w2 ⟨rfl, p2, f2⟩)
        go_roundw
        case rel => exact ⟨i + 1, by go_num, by omega, by rw [HT.out]; exact HS.out.step p2 f2 (HS.out.inv.fld HR.out 1)⟩
        case measure => simp [intOf]; omega
      by_cases a2 : a = 2
      · subst a2
        have K1 := take_tck g F R H i s wr HS.out.prog HR.out.f1 HS.out.inv
        clear a0 a1
        go_wp2_with (go_at_call 20; refine K1.mono ?_; clear K1; rintro e w2 ⟨rfl, p2, f2⟩)
        go_roundw
        case rel => exact ⟨i + 1, by go_num, by omega, by rw [HT.out]; exact HS.out.step p2 f2 (HS.out.inv.fld HR.out 2)⟩
        case measure => simp [intOf]; omega
      · have HU : Hid (fldS F R H a s = s) := by show _ = _; unfold fldS; rw [if_neg a0, if_neg a1, if_neg a2]
        by_cases hneg : a < 0
        · have hneg2 : decide (0 ≤ a) = false := decide_eq_false (by omega)
          clear a0 a1 a2
          go_wp2_with (fail)
          go_roundw
          case rel => exact ⟨i + 1, by go_num, by omega, by rw [HT.out, HU.out]; have hh := HS.out; exact ⟨hh.prog, hh.row, hh.inv.more (by omega), hh.bg, hh.fr⟩⟩
          case measure => simp [intOf]; omega
        · have hpos : 0 ≤ a := by omega
          have hbig : ¬ a < 3 := by omega
          have hpos2 : decide (0 ≤ a) = true := decide_eq_true hpos
          have hbig2 : decide (a < 3) = false := decide_eq_false hbig
          clear a0 a1 a2 hneg
          go_wp2_with (fail)
          go_roundw
          case rel => exact ⟨i + 1, by go_num, by omega, by rw [HT.out, HU.out]; have hh := HS.out; exact ⟨hh.prog, hh.row, hh.inv.more (by omega), hh.bg, hh.fr⟩⟩
          case measure => simp [intOf]; omega
    · have hlt2 : ¬ (i : Int) < (n : Int) := by omega
      have HV2 : Hid (runS F R H (L.take i) = V) := by show _ = _; rw [List.take_of_length_le (by rw [HL.out]; omega)]; exact HV.out
      have c3 : wr.cell? ⟨g, 3, none⟩ = some (.int .i64 (stI V.d)) := by have := HS.out.prog; rw [HV2.out] at this; exact cell_of_heap this rfl
      go_wp2_with (fail)
      go_ret2
      exact ⟨rfl, HS.out.fr.mono (fun k hk e => by have : w.heap.size ≤ k := e; omega)⟩
theorem eFold_no (F R H : Int) (v : Value) (w : World) (hr : ¬ OkR F R H) :
    Calls Try.prog 18 #[.agg #[.int .i64 F, .int .i64 R, .int .i64 H], v] w fun e w' => e = .returned (.tuple #[.int .i64 0, .int .i64 1]) ∧ Fr (fun _ => False) w w' := by
  have KN := fun w => eNew_no F R H w hr
  clear hr
  go_enter Try.func18, Try.ntmps18
  go_upto_region 1 with (fail)
  obtain ⟨wa, hwa⟩ : ∃ wa, wa = w.alloc (Obj.cells #[.int .i64 F, .int .i64 R, .int .i64 H] 23) := ⟨_, rfl⟩
  obtain ⟨go, hgo⟩ : ∃ go, go = w.heap.size := ⟨_, rfl⟩
  have Fa : Hid (Fr (fun _ => False) w wa) := by rw [hwa]; exact (Fr.refl _ _).alloc _
  have ba : wa.heap[go]? = some (.cells #[.int .i64 F, .int .i64 R, .int .i64 H] 23 (0, 0)) := by rw [hwa, hgo]; exact heap_alloc_new _ _
  have c0 : wa.cell? ⟨go, 0, none⟩ = some (.int .i64 F) := cell_of_heap ba rfl
  have c1 : wa.cell? ⟨go, 1, none⟩ = some (.int .i64 R) := cell_of_heap ba rfl
  have c2 : wa.cell? ⟨go, 2, none⟩ = some (.int .i64 H) := cell_of_heap ba rfl
  rw [← hwa, ← hgo]
  clear hwa hgo ba
  go_wp2_with (go_at_call 8; refine (KN _).mono ?_; clear KN; rintro e w1 ⟨rfl, f1⟩)
  go_ret2
  exact ⟨rfl, Fa.out.trans f1⟩
end Go.Proofs.Ytdjmgfdobjgniaa
