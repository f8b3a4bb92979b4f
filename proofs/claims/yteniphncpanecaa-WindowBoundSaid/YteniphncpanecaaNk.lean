/- The walk of WindowBound. -/
import Derived.Test.YteniphncpanecaaNc
import Derived.Test.YteniphncpanecaaLn
namespace Go.Proofs.Yteniphncpanecaa
open Go.RowKit
set_option linter.unusedVariables false
set_option maxRecDepth 100000
set_option maxHeartbeats 4000000

/-- A window of the program's, in memory that was not there before. -/
structure OneW (w0 w : World) (g : Nat) (x : Int) : Prop where
  prog : WinAt w g x
  inv : InvW x
  bg : w0.heap.size ≤ g
  fr : Fr (fun k => w0.heap.size ≤ k) w0 w
theorem OneW.later {w0 w w' : World} {g : Nat} {x : Int} (k : OneW w0 w g x) (f : Fr (fun _ => False) w w') : OneW w0 w' g x :=
  ⟨k.prog.fr f id, k.inv, k.bg, k.fr.trans (f.mono (fun _ _ e => e.elim))⟩
theorem OneW.step {w0 w w1 : World} {g : Nat} {x y : Int} (k : OneW w0 w g x) (hp : WinAt w1 g y) (f1 : Fr (fun k => k = g) w w1) (hi : InvW y) : OneW w0 w1 g y :=
  ⟨hp, hi, k.bg, k.fr.trans (f1.mono (fun j _ e => by show _ ≤ j; rw [e]; exact k.bg))⟩
theorem wbound_walk (u : Nat) (hu : u < 4294967296) (q : Option Addr) (c n : Nat) (L : List (Int × Int)) (w : World) (hI : Ops11 w q c L) (hl : L.length = n) : Calls Try.prog 6 #[.int .u32 (u : Int), .slice q n c] w fun e w' => e = .returned (.bool true) ∧ Below w.heap.size w w' := by
  obtain ⟨z, hzu⟩ : ∃ z : Nat, z = u % 2147483648 := ⟨_, rfl⟩
  have hz : sizB (z : Int) = true := by unfold sizB; apply decide_eq_true; omega
  have hzm : (u : Int).tmod 2147483648 = (z : Int) := by rw [Int.tmod_eq_emod_of_nonneg (by omega)]; omega
  have hzm2 : (u : Int) % 2147483648 = (z : Int) := by omega
  have hz1 : 0 ≤ (z : Int) := by omega
  have hz2 : (z : Int) ≤ 2147483647 := by omega
  clear hzu
  have KN := wNew_yes (z : Int) w hz
  have HZ : Hid (InvW (z : Int)) := ⟨by omega, by omega⟩
  have KA : Hid (∀ w, Calls Try.prog 18 #[] w fun e w' => e = .returned (.bool true) ∧ Fr (fun _ => False) w w') := fun w => wawake_in w
  have HI : Hid (Ops11 w q c L) := hI
  have HL : Hid (L.length = n) := hl
  have hnb : (n : Int) ≤ 9000000000000000000 := by have := hI.few; rw [hl] at this; have h2 : reachBytes < 2 ^ 47 := reach_lt; omega
  have hnc : n ≤ c := by have := hI.cap; rw [hl] at this; exact this
  clear hI hl hz
  go_enter Try.func6, Try.ntmps6
  go_upto_region 4 with (go_at_call 9; refine KN.mono ?_; clear KN; rintro e w1 ⟨g, hg, rfl, h1, f1⟩)
  have HS0 : Hid (OneW w w1 g (z : Int)) := ⟨h1, HZ.out, hg, f1.mono (fun _ _ e => e.elim)⟩
  clear hg h1 f1
  go_wp2_with (fail)
  go_loopw [7] (fun x7 wr => ∃ (i : Nat) (x : Int), x7 = .int .i64 (i : Int) ∧ i ≤ n ∧ Hid (OneW w wr g x)) (fun x7 _ => n - (intOf x7).toNat)
  case atStart => exact ⟨0, (z : Int), rfl, by omega, HS0.out⟩
  case round =>
    clear HS0
    obtain ⟨i, x, rfl, hin, HS⟩ := hrel
    by_cases hlt : i < n
    · have hlt2 : (i : Int) < (n : Int) := by omega
      obtain ⟨⟨a, d⟩, hd⟩ : ∃ d, L[i]? = some d := ⟨L[i]'(by rw [HL.out]; exact hlt), List.getElem?_eq_getElem _⟩
      obtain ⟨gq, oq, rfl, hgq, d0, d1, hdI⟩ := HI.out.cells i (a, d) hd
      have c0 : wr.cell? ⟨gq, oq + i * 2, none⟩ = some (.int .i64 a) := (HS.out.fr.cell (p := ⟨gq, oq + i * 2, none⟩) hgq (by show ¬ _ ≤ gq; omega)).trans d0
      have c1 : wr.cell? ⟨gq, oq + i * 2 + 1, none⟩ = some (.int .i64 d) := (HS.out.fr.cell (p := ⟨gq, oq + i * 2 + 1, none⟩) hgq (by show ¬ _ ≤ gq; omega)).trans d1
      clear hd hgq d0 d1 hdI
      go_upto_region 8 with (fail)
      obtain ⟨wa, hwa⟩ : ∃ wa, wa = wr.alloc (Obj.cells #[.int .i64 a, .int .i64 d] 31) := ⟨_, rfl⟩
      obtain ⟨go, hgo⟩ : ∃ go, go = wr.heap.size := ⟨_, rfl⟩
      have Fa : Fr (fun _ => False) wr wa := by rw [hwa]; exact (Fr.refl _ _).alloc _
      have ba : wa.heap[go]? = some (.cells #[.int .i64 a, .int .i64 d] 31 (0, 0)) := by rw [hwa, hgo]; exact heap_alloc_new _ _
      rw [← hwa, ← hgo]
      have HG : Hid (go ≠ g) := by rw [hgo]; have := lt_of_heap HS.out.prog; show _ ≠ _; omega
      clear hwa c0 c1 hgo
      have HA : Hid (OneW w wa g x) := HS.out.later Fa
      have k0 : wa.cell? ⟨go, 0, none⟩ = some (.int .i64 a) := cell_of_heap ba rfl
      have k1 : wa.cell? ⟨go, 1, none⟩ = some (.int .i64 d) := cell_of_heap ba rfl
      have HB : Hid (wa.heap[go]? = some (.cells #[.int .i64 a, .int .i64 d] 31 (0, 0))) := ba
      have KO := wSize_in g x wa HA.out.prog
      obtain ⟨i1, i2⟩ := HA.out.inv
      clear ba Fa HS
      by_cases ha : a = 0
      · subst ha
        have K1 := wTake_in g x d wa HA.out.prog HA.out.inv
        by_cases h1 : d < 0
        · rw [(take_arg x h1).1, (take_arg x h1).2] at K1
          have HY : Hid (InvW x) := HA.out.inv
          go_upto_region 15 with (first | (go_at_call 17; refine KO.mono ?_; clear KO; rintro e w' ⟨rfl, rfl⟩) | (go_at_call 11; refine K1.mono ?_; clear K1; rintro e w2 ⟨rfl, p2, f2⟩))
          have H3 : Hid (OneW w w2 g x) := HA.out.step p2 f2 HY.out
          clear k0 k1
          have k1 : w2.cell? ⟨go, 1, none⟩ = some (.int .i64 d) := cell_of_heap ((f2.block go (lt_of_heap HB.out) HG.out).trans HB.out) rfl
          clear p2 f2 HA HY HB
          have KS := wSize_in g x w2 H3.out.prog
          go_wp2_with (go_at_call 17; refine KS.mono ?_; rintro e w' ⟨rfl, rfl⟩)
          go_roundw
          case rel => exact ⟨i + 1, x, by go_num, by omega, H3.out⟩
          case measure => simp [intOf]; omega
        by_cases h2 : 0 < d
        · by_cases h3 : x < d
          · rw [(take_win h2 h3).1, (take_win h2 h3).2] at K1
            have HY : Hid (InvW x) := HA.out.inv
            go_upto_region 15 with (first | (go_at_call 17; refine KO.mono ?_; clear KO; rintro e w' ⟨rfl, rfl⟩) | (go_at_call 11; refine K1.mono ?_; clear K1; rintro e w2 ⟨rfl, p2, f2⟩))
            have H3 : Hid (OneW w w2 g x) := HA.out.step p2 f2 HY.out
            clear k0 k1
            have k1 : w2.cell? ⟨go, 1, none⟩ = some (.int .i64 d) := cell_of_heap ((f2.block go (lt_of_heap HB.out) HG.out).trans HB.out) rfl
            clear p2 f2 HA HY HB
            have KS := wSize_in g x w2 H3.out.prog
            go_wp2_with (go_at_call 17; refine KS.mono ?_; rintro e w' ⟨rfl, rfl⟩)
            go_roundw
            case rel => exact ⟨i + 1, x, by go_num, by omega, H3.out⟩
            case measure => simp [intOf]; omega
          · skip
            obtain ⟨y, hy⟩ : ∃ y, x - d = y := ⟨_, rfl⟩
            have HY : Hid (InvW y) := by have := inv_take HA.out.inv d; rw [(take_ok (show 0 ≤ d by omega) (show ¬ (0 < d ∧ x < d) by omega)).2, hy] at this; exact this
            rw [(take_ok (show 0 ≤ d by omega) (show ¬ (0 < d ∧ x < d) by omega)).1, (take_ok (show 0 ≤ d by omega) (show ¬ (0 < d ∧ x < d) by omega)).2, hy] at K1
            have hy2 : x + -d = y := by omega
            have hyb : ¬ 2147483647 < y := by have := HY.out.2; omega
            clear hy
            go_upto_region 15 with (first | (go_at_call 17; refine KO.mono ?_; clear KO; rintro e w' ⟨rfl, rfl⟩) | (go_at_call 11; refine K1.mono ?_; clear K1; rintro e w2 ⟨rfl, p2, f2⟩))
            have H3 : Hid (OneW w w2 g y) := HA.out.step p2 f2 HY.out
            clear k0 k1
            have k1 : w2.cell? ⟨go, 1, none⟩ = some (.int .i64 d) := cell_of_heap ((f2.block go (lt_of_heap HB.out) HG.out).trans HB.out) rfl
            clear p2 f2 HA HY HB
            have KS := wSize_in g y w2 H3.out.prog
            go_wp2_with (go_at_call 17; refine KS.mono ?_; rintro e w' ⟨rfl, rfl⟩)
            go_roundw
            case rel => exact ⟨i + 1, y, by go_num, by omega, H3.out⟩
            case measure => simp [intOf]; omega
        · skip
          obtain ⟨y, hy⟩ : ∃ y, x - d = y := ⟨_, rfl⟩
          have HY : Hid (InvW y) := by have := inv_take HA.out.inv d; rw [(take_ok (show 0 ≤ d by omega) (show ¬ (0 < d ∧ x < d) by omega)).2, hy] at this; exact this
          rw [(take_ok (show 0 ≤ d by omega) (show ¬ (0 < d ∧ x < d) by omega)).1, (take_ok (show 0 ≤ d by omega) (show ¬ (0 < d ∧ x < d) by omega)).2, hy] at K1
          have hy2 : x + -d = y := by omega
          have hyb : ¬ 2147483647 < y := by have := HY.out.2; omega
          clear hy
          go_upto_region 15 with (first | (go_at_call 17; refine KO.mono ?_; clear KO; rintro e w' ⟨rfl, rfl⟩) | (go_at_call 11; refine K1.mono ?_; clear K1; rintro e w2 ⟨rfl, p2, f2⟩))
          have H3 : Hid (OneW w w2 g y) := HA.out.step p2 f2 HY.out
          clear k0 k1
          have k1 : w2.cell? ⟨go, 1, none⟩ = some (.int .i64 d) := cell_of_heap ((f2.block go (lt_of_heap HB.out) HG.out).trans HB.out) rfl
          clear p2 f2 HA HY HB
          have KS := wSize_in g y w2 H3.out.prog
          go_wp2_with (go_at_call 17; refine KS.mono ?_; rintro e w' ⟨rfl, rfl⟩)
          go_roundw
          case rel => exact ⟨i + 1, y, by go_num, by omega, H3.out⟩
          case measure => simp [intOf]; omega
      by_cases hb : a = 1
      · subst hb
        have K1 := wAdd_in g x d wa HA.out.prog
        by_cases h1 : d < 1 ∨ 2147483647 < d
        · rw [(add_arg x h1).1, (add_arg x h1).2] at K1
          have HY : Hid (InvW x) := HA.out.inv
          clear h1
          go_upto_region 20 with (first | (go_at_call 17; refine KO.mono ?_; clear KO; rintro e w' ⟨rfl, rfl⟩) | (go_at_call 13; refine K1.mono ?_; clear K1; rintro e w2 ⟨rfl, p2, f2⟩))
          have H3 : Hid (OneW w w2 g x) := HA.out.step p2 f2 HY.out
          clear k0 k1
          have k1 : w2.cell? ⟨go, 1, none⟩ = some (.int .i64 d) := cell_of_heap ((f2.block go (lt_of_heap HB.out) HG.out).trans HB.out) rfl
          clear p2 f2 HA HY HB
          have KS := wSize_in g x w2 H3.out.prog
          go_wp2_with (go_at_call 17; refine KS.mono ?_; rintro e w' ⟨rfl, rfl⟩)
          go_roundw
          case rel => exact ⟨i + 1, x, by go_num, by omega, H3.out⟩
          case measure => simp [intOf]; omega
        by_cases h2 : 2147483647 < wrap64 (x + d)
        · rw [(add_long h1 h2).1, (add_long h1 h2).2] at K1
          have HY : Hid (InvW x) := HA.out.inv
          clear h1 h2
          go_upto_region 20 with (first | (go_at_call 17; refine KO.mono ?_; clear KO; rintro e w' ⟨rfl, rfl⟩) | (go_at_call 13; refine K1.mono ?_; clear K1; rintro e w2 ⟨rfl, p2, f2⟩))
          have H3 : Hid (OneW w w2 g x) := HA.out.step p2 f2 HY.out
          clear k0 k1
          have k1 : w2.cell? ⟨go, 1, none⟩ = some (.int .i64 d) := cell_of_heap ((f2.block go (lt_of_heap HB.out) HG.out).trans HB.out) rfl
          clear p2 f2 HA HY HB
          have KS := wSize_in g x w2 H3.out.prog
          go_wp2_with (go_at_call 17; refine KS.mono ?_; rintro e w' ⟨rfl, rfl⟩)
          go_roundw
          case rel => exact ⟨i + 1, x, by go_num, by omega, H3.out⟩
          case measure => simp [intOf]; omega
        · obtain ⟨y, hy⟩ : ∃ y, wrap64 (x + d) = y := ⟨_, rfl⟩
          have HY : Hid (InvW y) := by have := inv_add HA.out.inv 1 d; rw [(add_ok h1 h2).2, hy] at this; exact this
          rw [(add_ok h1 h2).1, (add_ok h1 h2).2, hy] at K1
          have hyb : ¬ 2147483647 < y := by have := HY.out.2; omega
          clear h1 h2
          go_upto_region 20 with (first | (go_at_call 17; refine KO.mono ?_; clear KO; rintro e w' ⟨rfl, rfl⟩) | (go_at_call 13; refine K1.mono ?_; clear K1; rintro e w2 ⟨rfl, p2, f2⟩))
          have H3 : Hid (OneW w w2 g y) := HA.out.step p2 f2 HY.out
          clear k0 k1
          have k1 : w2.cell? ⟨go, 1, none⟩ = some (.int .i64 d) := cell_of_heap ((f2.block go (lt_of_heap HB.out) HG.out).trans HB.out) rfl
          clear p2 f2 HA HY HB
          have KS := wSize_in g y w2 H3.out.prog
          go_wp2_with (go_at_call 17; refine KS.mono ?_; rintro e w' ⟨rfl, rfl⟩)
          go_roundw
          case rel => exact ⟨i + 1, y, by go_num, by omega, H3.out⟩
          case measure => simp [intOf]; omega
      · skip
        have K1 := wShift_in g x d wa HA.out.prog
        by_cases h1 : d < (-2147483647) ∨ 2147483647 < d
        · rw [(add_arg x h1).1, (add_arg x h1).2] at K1
          have HY : Hid (InvW x) := HA.out.inv
          clear h1
          go_upto_region 20 with (first | (go_at_call 17; refine KO.mono ?_; clear KO; rintro e w' ⟨rfl, rfl⟩) | (go_at_call 15; refine K1.mono ?_; clear K1; rintro e w2 ⟨rfl, p2, f2⟩))
          have H3 : Hid (OneW w w2 g x) := HA.out.step p2 f2 HY.out
          clear k0 k1
          have k1 : w2.cell? ⟨go, 1, none⟩ = some (.int .i64 d) := cell_of_heap ((f2.block go (lt_of_heap HB.out) HG.out).trans HB.out) rfl
          clear p2 f2 HA HY HB
          have KS := wSize_in g x w2 H3.out.prog
          go_wp2_with (go_at_call 17; refine KS.mono ?_; rintro e w' ⟨rfl, rfl⟩)
          go_roundw
          case rel => exact ⟨i + 1, x, by go_num, by omega, H3.out⟩
          case measure => simp [intOf]; omega
        by_cases h2 : 2147483647 < wrap64 (x + d)
        · rw [(add_long h1 h2).1, (add_long h1 h2).2] at K1
          have HY : Hid (InvW x) := HA.out.inv
          clear h1 h2
          go_upto_region 20 with (first | (go_at_call 17; refine KO.mono ?_; clear KO; rintro e w' ⟨rfl, rfl⟩) | (go_at_call 15; refine K1.mono ?_; clear K1; rintro e w2 ⟨rfl, p2, f2⟩))
          have H3 : Hid (OneW w w2 g x) := HA.out.step p2 f2 HY.out
          clear k0 k1
          have k1 : w2.cell? ⟨go, 1, none⟩ = some (.int .i64 d) := cell_of_heap ((f2.block go (lt_of_heap HB.out) HG.out).trans HB.out) rfl
          clear p2 f2 HA HY HB
          have KS := wSize_in g x w2 H3.out.prog
          go_wp2_with (go_at_call 17; refine KS.mono ?_; rintro e w' ⟨rfl, rfl⟩)
          go_roundw
          case rel => exact ⟨i + 1, x, by go_num, by omega, H3.out⟩
          case measure => simp [intOf]; omega
        · obtain ⟨y, hy⟩ : ∃ y, wrap64 (x + d) = y := ⟨_, rfl⟩
          have HY : Hid (InvW y) := by have := inv_add HA.out.inv (-2147483647) d; rw [(add_ok h1 h2).2, hy] at this; exact this
          rw [(add_ok h1 h2).1, (add_ok h1 h2).2, hy] at K1
          have hyb : ¬ 2147483647 < y := by have := HY.out.2; omega
          clear h1 h2
          go_upto_region 20 with (first | (go_at_call 17; refine KO.mono ?_; clear KO; rintro e w' ⟨rfl, rfl⟩) | (go_at_call 15; refine K1.mono ?_; clear K1; rintro e w2 ⟨rfl, p2, f2⟩))
          have H3 : Hid (OneW w w2 g y) := HA.out.step p2 f2 HY.out
          clear k0 k1
          have k1 : w2.cell? ⟨go, 1, none⟩ = some (.int .i64 d) := cell_of_heap ((f2.block go (lt_of_heap HB.out) HG.out).trans HB.out) rfl
          clear p2 f2 HA HY HB
          have KS := wSize_in g y w2 H3.out.prog
          go_wp2_with (go_at_call 17; refine KS.mono ?_; rintro e w' ⟨rfl, rfl⟩)
          go_roundw
          case rel => exact ⟨i + 1, y, by go_num, by omega, H3.out⟩
          case measure => simp [intOf]; omega
    · have hlt2 : ¬ (i : Int) < (n : Int) := by omega
      go_wp2_with (go_at_call 18; refine (KA.out _).mono ?_; rintro e w6 ⟨rfl, f6⟩)
      go_ret
      exact ⟨rfl, (HS.out.fr.trans (f6.mono (fun _ _ e => e.elim))).below (fun k hk e => by omega)⟩
end Go.Proofs.Yteniphncpanecaa
