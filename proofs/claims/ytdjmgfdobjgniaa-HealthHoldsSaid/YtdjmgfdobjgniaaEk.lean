/- The walk of HealthTurns. -/
import Derived.Test.YtdjmgfdobjgniaaEd
import Derived.Test.YtdjmgfdobjgniaaL17
namespace Go.Proofs.Ytdjmgfdobjgniaa
open Go.RowKit
set_option linter.unusedVariables false
set_option maxRecDepth 100000
set_option maxHeartbeats 4000000

/-- A model and its rules' box, in memory that was not there before. -/
structure OneH (w0 w : World) (g go : Nat) (F R H : Int) (n : Int) (s : Hs) : Prop where
  prog : HM w g F R H s
  box : w.heap[go]? = some (.cells #[.int .i64 F, .int .i64 R, .int .i64 H] 23 (0, 0))
  inv : InvH F n s
  bg : w0.heap.size ≤ g
  fr : Fr (fun k => w0.heap.size ≤ k) w0 w
theorem OneH.ne {w0 w : World} {g go : Nat} {F R H n : Int} {s : Hs} (h : OneH w0 w g go F R H n s) : go ≠ g := by
  rintro rfl
  have h1 := h.box
  have h2 := h.prog
  unfold HM at h2
  rw [h1] at h2
  simp at h2
theorem OneH.step {w0 w w1 : World} {g go : Nat} {F R H n m : Int} {s t : Hs} (h : OneH w0 w g go F R H n s) (hp : HM w1 g F R H t) (f : Fr (fun k => k = g) w w1) (hi : InvH F m t) : OneH w0 w1 g go F R H m t :=
  ⟨hp, (f.block go (lt_of_heap h.box) h.ne).trans h.box, hi, h.bg, h.fr.trans (f.mono (fun k _ e => by show _ ≤ k; rw [e]; exact h.bg))⟩
/-- What the law's two counts say of the run. -/
structure TurnI (i b a : Int) (s : Hs) : Prop where
  b0 : 0 ≤ b
  bi : b ≤ i
  a0 : 0 ≤ a
  ai : a ≤ i
  up : s.d = false → s.r ≤ b
  dn : s.d = true → s.r ≤ a
theorem eturns_no (F R H : Int) (q : Option Addr) (c n : Nat) (w : World) (hr : ¬ OkR F R H) : Calls Try.prog 5 #[.agg #[.int .i64 F, .int .i64 R, .int .i64 H], .slice q n c] w fun e w' => e = .returned (.bool true) ∧ Below w.heap.size w w' := by
  have KN := fun w => eNew_no F R H w hr
  have KA := fun w => eawake_in w
  clear hr
  go_enter Try.func5, Try.ntmps5
  go_upto_region 1 with (fail)
  obtain ⟨wa, hwa⟩ : ∃ wa, wa = w.alloc (Obj.cells #[.int .i64 F, .int .i64 R, .int .i64 H] 23) := ⟨_, rfl⟩
  obtain ⟨go, hgo⟩ : ∃ go, go = w.heap.size := ⟨_, rfl⟩
  have Fa : Hid (Fr (fun _ => False) w wa) := by rw [hwa]; exact (Fr.refl _ _).alloc _
  have ba : wa.heap[go]? = some (.cells #[.int .i64 F, .int .i64 R, .int .i64 H] 23 (0, 0)) := by rw [hwa, hgo]; exact heap_alloc_new _ _
  have c0 : wa.cell? ⟨go, 0, none⟩ = some (.int .i64 F) := cell_of_heap ba rfl
  have c1 : wa.cell? ⟨go, 1, none⟩ = some (.int .i64 R) := cell_of_heap ba rfl
  have c2 : wa.cell? ⟨go, 2, none⟩ = some (.int .i64 H) := cell_of_heap ba rfl
  rw [← hwa, ← hgo]
  clear hwa hgo ba
  go_wp2_with (first | (go_at_call 8; refine (KN _).mono ?_; clear KN; rintro e w1 ⟨rfl, f1⟩) | (go_at_call 17; refine (KA _).mono ?_; rintro e w3 ⟨rfl, f3⟩))
  go_ret
  exact ⟨rfl, ((Fa.out.trans f1).trans f3).below (fun _ _ => id)⟩
theorem eturns_yes (F R H : Int) (q : Option Addr) (c n : Nat) (L : List Int) (w : World) (hr : OkR F R H) (hI : Ints10 w q c L) (hl : L.length = n) : Calls Try.prog 5 #[.agg #[.int .i64 F, .int .i64 R, .int .i64 H], .slice q n c] w fun e w' => e = .returned (.bool true) ∧ Below w.heap.size w w' := by
  have KN := fun w => eNew_yes F R H w hr
  have KA : Hid (∀ w, Calls Try.prog 17 #[] w fun e w' => e = .returned (.bool true) ∧ Fr (fun _ => False) w w') := fun w => eawake_in w
  have HR : Hid (OkR F R H) := hr
  have HI : Hid (Ints10 w q c L) := hI
  have HL : Hid (L.length = n) := hl
  have hnb : (n : Int) ≤ 8000000000000000000 := by have := hI.few; rw [hl] at this; have h2 : reachBytes < 2 ^ 47 := reach_lt; omega
  have hnc : n ≤ c := by have := hI.cap; rw [hl] at this; exact this
  clear hI hl hr
  go_enter Try.func5, Try.ntmps5
  go_upto_region 1 with (fail)
  obtain ⟨wa, hwa⟩ : ∃ wa, wa = w.alloc (Obj.cells #[.int .i64 F, .int .i64 R, .int .i64 H] 23) := ⟨_, rfl⟩
  obtain ⟨go, hgo⟩ : ∃ go, go = w.heap.size := ⟨_, rfl⟩
  have Fa : Hid (Fr (fun _ => False) w wa) := by rw [hwa]; exact (Fr.refl _ _).alloc _
  have ba : wa.heap[go]? = some (.cells #[.int .i64 F, .int .i64 R, .int .i64 H] 23 (0, 0)) := by rw [hwa, hgo]; exact heap_alloc_new _ _
  have c0 : wa.cell? ⟨go, 0, none⟩ = some (.int .i64 F) := cell_of_heap ba rfl
  have c1 : wa.cell? ⟨go, 1, none⟩ = some (.int .i64 R) := cell_of_heap ba rfl
  have c2 : wa.cell? ⟨go, 2, none⟩ = some (.int .i64 H) := cell_of_heap ba rfl
  have HB : Hid (wa.heap[go]? = some (.cells #[.int .i64 F, .int .i64 R, .int .i64 H] 23 (0, 0))) := ba
  rw [← hwa, ← hgo]
  clear hwa hgo ba
  go_upto_region 4 with (go_at_call 8; refine (KN _).mono ?_; clear KN; rintro e w1 ⟨g, hg, rfl, h1, f1⟩)
  have HS0 : Hid (OneH w w1 g go F R H 0 ⟨false, 0, 0⟩) := ⟨h1, (f1.block go (lt_of_heap HB.out) id).trans HB.out, InvH.start HR.out, Nat.le_trans Fa.out.size hg, (Fa.out.trans f1).mono (fun _ _ e => e.elim)⟩
  clear hg h1 f1 Fa HB c0 c1 c2
  go_wp2_with (fail)
  go_loopw [7, 8, 9] (fun x7 x8 x9 wr => ∃ (i : Nat) (b a : Int) (s : Hs), x7 = .int .i64 b ∧ x8 = .int .i64 a ∧ x9 = .int .i64 (i : Int) ∧ i ≤ n ∧ Hid (OneH w wr g go F R H (i : Int) s) ∧ Hid (TurnI (i : Int) b a s)) (fun x7 x8 x9 _ => n - (intOf x9).toNat)
  case atStart => exact ⟨0, 0, 0, _, rfl, rfl, rfl, by omega, HS0.out, ⟨by omega, by simp, by omega, by simp, fun _ => by simp, fun _ => by simp⟩⟩
  case round =>
    clear HS0
    obtain ⟨i, b, a, ⟨d, r, k⟩, rfl, rfl, rfl, hin, HS, HT⟩ := hrel
    by_cases hlt : i < n
    · have hlt2 : (i : Int) < (n : Int) := by omega
      obtain ⟨x, hd⟩ : ∃ d, L[i]? = some d := ⟨L[i]'(by rw [HL.out]; exact hlt), List.getElem?_eq_getElem _⟩
      obtain ⟨gq, oq, rfl, hgq, d0, hdI⟩ := HI.out.cells i x hd
      have HC : Hid (∀ w', Fr (fun k => w.heap.size ≤ k) w w' → w'.cell? ⟨gq, oq + i, none⟩ = some (.int .i64 x)) := fun w' f => (f.cell (p := ⟨gq, oq + i, none⟩) hgq (by show ¬ _ ≤ gq; omega)).trans d0
      have c0 : wr.cell? ⟨gq, oq + i, none⟩ = some (.int .i64 x) := HC.out wr HS.out.fr
      clear hd hgq d0 hdI
      obtain ⟨tb0, tbi, ta0, tai, tup, tdn⟩ := HT.out
      obtain ⟨i0, -, -, ih0, ihm⟩ := HS.out.inv
      dsimp only at tup tdn i0 ih0 ihm
      have bb1 : b + 1 ≤ 9223372036854775807 := by omega
      have bb2 : -9223372036854775808 ≤ b + 1 := by omega
      have ba1 : a + 1 ≤ 9223372036854775807 := by omega
      have ba2 : -9223372036854775808 ≤ a + 1 := by omega
      have KU := eUp_in g F R H ⟨d, r, k⟩ wr HS.out.prog HR.out.f1
      have KH := eHold_in g F R H ⟨d, r, k⟩ wr HS.out.prog HR.out.f1
      dsimp only at KU KH
      clear HT
      by_cases a2 : x = 2
      · subst a2
        have K1 := eTick_in g F R H i ⟨d, r, k⟩ wr HS.out.prog HR.out.f1 HS.out.inv
        obtain ⟨k2, hk2⟩ : ∃ k2, tckS ⟨d, r, k⟩ = ⟨d, r, k2⟩ := by
          by_cases h : 0 < k
          · exact ⟨_, tck_one d r h⟩
          · exact ⟨_, tck_none d r h⟩
        have HY := HS.out.inv.tck
        rw [hk2] at K1 HY
        have HY2 : Hid (InvH F ((i : Int) + 1) ⟨d, r, k2⟩) := HY
        have HT2 : Hid (TurnI ((i : Int) + 1) b a ⟨d, r, k2⟩) := ⟨tb0, by omega, ta0, by omega, tup, tdn⟩
        clear hk2 HY tup tdn
        go_upto_region 19 with (first | (go_at_call 14; refine KU.mono ?_; clear KU; rintro e w' ⟨rfl, rfl⟩) | (go_at_call 16; refine KH.mono ?_; clear KH; rintro e w' ⟨rfl, rfl⟩) | (go_at_call 11; refine K1.mono ?_; clear K1; rintro e w2 ⟨rfl, p2, f2⟩))
        have KU := eUp_in g F R H ⟨d, r, k2⟩ w2 p2 HR.out.f1
        dsimp only at KU
        have H3 : Hid (OneH w w2 g go F R H ((i : Int) + 1) ⟨d, r, k2⟩) := HS.out.step p2 f2 HY2.out
        clear p2 f2 c0
        go_wp2_with (go_at_call 14; refine KU.mono ?_; clear KU; rintro e w' ⟨rfl, rfl⟩)
        go_roundw
        case rel => exact ⟨i + 1, b, a, ⟨d, r, k2⟩, rfl, rfl, by go_num, by omega, H3.out, HT2.out⟩
        case measure => simp [intOf]; omega
      by_cases a1 : x = 1
      · subst a1
        clear a2
        cases d
        · skip
          have KP := eProbe_in true g F R H i _ wr HS.out.prog HR.out.f1 HS.out.inv (by omega)
          have HY := HS.out.inv.prb HR.out true
          rw [prb_off F R H rfl] at KP HY
          have HY2 : Hid (InvH F ((i : Int) + 1) ⟨false, 0, k⟩) := HY
          have HT2 : Hid (TurnI ((i : Int) + 1) (0) (a + 1) ⟨false, 0, k⟩) := ⟨by omega, by omega, by omega, by omega, fun e => by show (0 : Int) ≤ _; omega, fun e => by simp at e⟩
          clear HY tup tdn
          go_upto_region 25 with (first | (go_at_call 14; refine KU.mono ?_; clear KU; rintro e w' ⟨rfl, rfl⟩) | (go_at_call 16; refine KH.mono ?_; clear KH; rintro e w' ⟨rfl, rfl⟩) | (go_at_call 13; refine KP.mono ?_; clear KP; rintro e w2 ⟨rfl, p2, f2⟩))
          have KU := eUp_in g F R H _ w2 p2 HR.out.f1
          dsimp only at KU
          have H3 : Hid (OneH w w2 g go F R H ((i : Int) + 1) ⟨false, 0, k⟩) := HS.out.step p2 f2 HY2.out
          have c1 : w2.cell? ⟨gq, oq + i, none⟩ = some (.int .i64 1) := HC.out w2 H3.out.fr
          have x0 : w2.cell? ⟨go, 0, none⟩ = some (.int .i64 F) := cell_of_heap H3.out.box rfl
          have x1 : w2.cell? ⟨go, 1, none⟩ = some (.int .i64 R) := cell_of_heap H3.out.box rfl
          clear p2 f2 c0 HS HY2
          go_wp2_with (go_at_call 14; refine KU.mono ?_; clear KU; rintro e w' ⟨rfl, rfl⟩)
          go_roundw
          case rel => exact ⟨i + 1, 0, a + 1, _, by go_num, by go_num, by go_num, by omega, H3.out, HT2.out⟩
          case measure => simp [intOf]; omega
        · have tdn2 := tdn rfl
          by_cases hk : r + 1 < R ∨ 0 < k
          · skip
            have KP := eProbe_in true g F R H i _ wr HS.out.prog HR.out.f1 HS.out.inv (by omega)
            have HY := HS.out.inv.prb HR.out true
            rw [prb_stay F H hk] at KP HY
            have HY2 : Hid (InvH F ((i : Int) + 1) ⟨true, r + 1, k⟩) := HY
            have HT2 : Hid (TurnI ((i : Int) + 1) (0) (a + 1) ⟨true, r + 1, k⟩) := ⟨by omega, by omega, by omega, by omega, fun e => by simp at e, fun e => by show r + 1 ≤ _; omega⟩
            clear HY tup tdn hk
            go_upto_region 25 with (first | (go_at_call 14; refine KU.mono ?_; clear KU; rintro e w' ⟨rfl, rfl⟩) | (go_at_call 16; refine KH.mono ?_; clear KH; rintro e w' ⟨rfl, rfl⟩) | (go_at_call 13; refine KP.mono ?_; clear KP; rintro e w2 ⟨rfl, p2, f2⟩))
            have KU := eUp_in g F R H _ w2 p2 HR.out.f1
            dsimp only at KU
            have H3 : Hid (OneH w w2 g go F R H ((i : Int) + 1) ⟨true, r + 1, k⟩) := HS.out.step p2 f2 HY2.out
            have c1 : w2.cell? ⟨gq, oq + i, none⟩ = some (.int .i64 1) := HC.out w2 H3.out.fr
            have x0 : w2.cell? ⟨go, 0, none⟩ = some (.int .i64 F) := cell_of_heap H3.out.box rfl
            have x1 : w2.cell? ⟨go, 1, none⟩ = some (.int .i64 R) := cell_of_heap H3.out.box rfl
            clear p2 f2 c0 HS HY2
            go_wp2_with (go_at_call 14; refine KU.mono ?_; clear KU; rintro e w' ⟨rfl, rfl⟩)
            go_roundw
            case rel => exact ⟨i + 1, 0, a + 1, _, by go_num, by go_num, by go_num, by omega, H3.out, HT2.out⟩
            case measure => simp [intOf]; omega
          · obtain rfl : k = 0 := by omega
            have KP := eProbe_in true g F R H i _ wr HS.out.prog HR.out.f1 HS.out.inv (by omega)
            have HY := HS.out.inv.prb HR.out true
            rw [prb_up F H hk] at KP HY
            have HY2 : Hid (InvH F ((i : Int) + 1) ⟨false, 0, 0⟩) := HY
            have HT2 : Hid (TurnI ((i : Int) + 1) (0) (a + 1) ⟨false, 0, 0⟩) := ⟨by omega, by omega, by omega, by omega, fun e => by show (0 : Int) ≤ _; omega, fun e => by simp at e⟩
            have hR : ¬ a + 1 < R := by omega
            have hR2 : decide (a + 1 < R) = false := decide_eq_false hR
            clear HY tup tdn hk
            go_upto_region 25 with (first | (go_at_call 14; refine KU.mono ?_; clear KU; rintro e w' ⟨rfl, rfl⟩) | (go_at_call 16; refine KH.mono ?_; clear KH; rintro e w' ⟨rfl, rfl⟩) | (go_at_call 13; refine KP.mono ?_; clear KP; rintro e w2 ⟨rfl, p2, f2⟩))
            have KU := eUp_in g F R H _ w2 p2 HR.out.f1
            dsimp only at KU
            have H3 : Hid (OneH w w2 g go F R H ((i : Int) + 1) ⟨false, 0, 0⟩) := HS.out.step p2 f2 HY2.out
            have c1 : w2.cell? ⟨gq, oq + i, none⟩ = some (.int .i64 1) := HC.out w2 H3.out.fr
            have x0 : w2.cell? ⟨go, 0, none⟩ = some (.int .i64 F) := cell_of_heap H3.out.box rfl
            have x1 : w2.cell? ⟨go, 1, none⟩ = some (.int .i64 R) := cell_of_heap H3.out.box rfl
            clear p2 f2 c0 HS HY2
            go_wp2_with (go_at_call 14; refine KU.mono ?_; clear KU; rintro e w' ⟨rfl, rfl⟩)
            go_roundw
            case rel => exact ⟨i + 1, 0, a + 1, _, by go_num, by go_num, by go_num, by omega, H3.out, HT2.out⟩
            case measure => simp [intOf]; omega
      · have e2 : (x == 2) = false := by rw [beq_eq_false_iff_ne]; exact a2
        have e1 : (x == 1) = false := by rw [beq_eq_false_iff_ne]; exact a1
        cases d
        · have tup2 := tup rfl
          by_cases hk : r + 1 < F
          · skip
            have KP := eProbe_in false g F R H i _ wr HS.out.prog HR.out.f1 HS.out.inv (by omega)
            have HY := HS.out.inv.prb HR.out false
            rw [prb_more R H k hk] at KP HY
            have HY2 : Hid (InvH F ((i : Int) + 1) ⟨false, r + 1, k⟩) := HY
            have HT2 : Hid (TurnI ((i : Int) + 1) (b + 1) (0) ⟨false, r + 1, k⟩) := ⟨by omega, by omega, by omega, by omega, fun e => by show r + 1 ≤ _; omega, fun e => by simp at e⟩
            clear HY tup tdn hk
            go_upto_region 25 with (first | (go_at_call 14; refine KU.mono ?_; clear KU; rintro e w' ⟨rfl, rfl⟩) | (go_at_call 16; refine KH.mono ?_; clear KH; rintro e w' ⟨rfl, rfl⟩) | (go_at_call 13; refine KP.mono ?_; clear KP; rintro e w2 ⟨rfl, p2, f2⟩))
            have KU := eUp_in g F R H _ w2 p2 HR.out.f1
            dsimp only at KU
            have H3 : Hid (OneH w w2 g go F R H ((i : Int) + 1) ⟨false, r + 1, k⟩) := HS.out.step p2 f2 HY2.out
            have c1 : w2.cell? ⟨gq, oq + i, none⟩ = some (.int .i64 x) := HC.out w2 H3.out.fr
            have x0 : w2.cell? ⟨go, 0, none⟩ = some (.int .i64 F) := cell_of_heap H3.out.box rfl
            have x1 : w2.cell? ⟨go, 1, none⟩ = some (.int .i64 R) := cell_of_heap H3.out.box rfl
            clear p2 f2 c0 HS HY2
            go_wp2_with (go_at_call 14; refine KU.mono ?_; clear KU; rintro e w' ⟨rfl, rfl⟩)
            go_roundw
            case rel => exact ⟨i + 1, b + 1, 0, _, by go_num, by go_num, by go_num, by omega, H3.out, HT2.out⟩
            case measure => simp [intOf]; omega
          · skip
            have KP := eProbe_in false g F R H i _ wr HS.out.prog HR.out.f1 HS.out.inv (by omega)
            have HY := HS.out.inv.prb HR.out false
            rw [prb_down R H k hk] at KP HY
            have HY2 : Hid (InvH F ((i : Int) + 1) ⟨true, 0, H⟩) := HY
            have HT2 : Hid (TurnI ((i : Int) + 1) (b + 1) (0) ⟨true, 0, H⟩) := ⟨by omega, by omega, by omega, by omega, fun e => by simp at e, fun e => by show (0 : Int) ≤ _; omega⟩
            have hF : ¬ b + 1 < F := by omega
            have hF2 : decide (b + 1 < F) = false := decide_eq_false hF
            clear HY tup tdn hk
            go_upto_region 25 with (first | (go_at_call 14; refine KU.mono ?_; clear KU; rintro e w' ⟨rfl, rfl⟩) | (go_at_call 16; refine KH.mono ?_; clear KH; rintro e w' ⟨rfl, rfl⟩) | (go_at_call 13; refine KP.mono ?_; clear KP; rintro e w2 ⟨rfl, p2, f2⟩))
            have KU := eUp_in g F R H _ w2 p2 HR.out.f1
            dsimp only at KU
            have H3 : Hid (OneH w w2 g go F R H ((i : Int) + 1) ⟨true, 0, H⟩) := HS.out.step p2 f2 HY2.out
            have c1 : w2.cell? ⟨gq, oq + i, none⟩ = some (.int .i64 x) := HC.out w2 H3.out.fr
            have x0 : w2.cell? ⟨go, 0, none⟩ = some (.int .i64 F) := cell_of_heap H3.out.box rfl
            have x1 : w2.cell? ⟨go, 1, none⟩ = some (.int .i64 R) := cell_of_heap H3.out.box rfl
            clear p2 f2 c0 HS HY2
            go_wp2_with (go_at_call 14; refine KU.mono ?_; clear KU; rintro e w' ⟨rfl, rfl⟩)
            go_roundw
            case rel => exact ⟨i + 1, b + 1, 0, _, by go_num, by go_num, by go_num, by omega, H3.out, HT2.out⟩
            case measure => simp [intOf]; omega
        · skip
          have KP := eProbe_in false g F R H i _ wr HS.out.prog HR.out.f1 HS.out.inv (by omega)
          have HY := HS.out.inv.prb HR.out false
          rw [prb_off F R H rfl] at KP HY
          have HY2 : Hid (InvH F ((i : Int) + 1) ⟨true, 0, k⟩) := HY
          have HT2 : Hid (TurnI ((i : Int) + 1) (b + 1) (0) ⟨true, 0, k⟩) := ⟨by omega, by omega, by omega, by omega, fun e => by simp at e, fun e => by show (0 : Int) ≤ _; omega⟩
          clear HY tup tdn
          go_upto_region 25 with (first | (go_at_call 14; refine KU.mono ?_; clear KU; rintro e w' ⟨rfl, rfl⟩) | (go_at_call 16; refine KH.mono ?_; clear KH; rintro e w' ⟨rfl, rfl⟩) | (go_at_call 13; refine KP.mono ?_; clear KP; rintro e w2 ⟨rfl, p2, f2⟩))
          have KU := eUp_in g F R H _ w2 p2 HR.out.f1
          dsimp only at KU
          have H3 : Hid (OneH w w2 g go F R H ((i : Int) + 1) ⟨true, 0, k⟩) := HS.out.step p2 f2 HY2.out
          have c1 : w2.cell? ⟨gq, oq + i, none⟩ = some (.int .i64 x) := HC.out w2 H3.out.fr
          have x0 : w2.cell? ⟨go, 0, none⟩ = some (.int .i64 F) := cell_of_heap H3.out.box rfl
          have x1 : w2.cell? ⟨go, 1, none⟩ = some (.int .i64 R) := cell_of_heap H3.out.box rfl
          clear p2 f2 c0 HS HY2
          go_wp2_with (go_at_call 14; refine KU.mono ?_; clear KU; rintro e w' ⟨rfl, rfl⟩)
          go_roundw
          case rel => exact ⟨i + 1, b + 1, 0, _, by go_num, by go_num, by go_num, by omega, H3.out, HT2.out⟩
          case measure => simp [intOf]; omega
    · have hlt2 : ¬ (i : Int) < (n : Int) := by omega
      go_wp2_with (go_at_call 17; refine (KA.out _).mono ?_; rintro e w3 ⟨rfl, f3⟩)
      go_ret
      exact ⟨rfl, (HS.out.fr.trans (f3.mono (fun _ _ e => e.elim))).below (fun k hk e => by have : w.heap.size ≤ k := e; omega)⟩
theorem eturns_walk (F R H : Int) (q : Option Addr) (c n : Nat) (L : List Int) (w : World) (hI : Ints10 w q c L) (hl : L.length = n) : Calls Try.prog 5 #[.agg #[.int .i64 F, .int .i64 R, .int .i64 H], .slice q n c] w fun e w' => e = .returned (.bool true) ∧ Below w.heap.size w w' := by
  by_cases hr : OkR F R H
  · exact eturns_yes F R H q c n L w hr hI hl
  · exact eturns_no F R H q c n w hr
end Go.Proofs.Ytdjmgfdobjgniaa
